/- A store that a walk keeps, in whatever blocks of the walk's own it lies, and each call of it. -/
import Derived.Test.YtlclabbnpjobgaaGreatDoorAp19
namespace Go.Proofs.YtlclabbnpjobgaaGreatDoor
variable {L:Lq}
variable {bm bv h k m:Nat}
variable {cs:Lz}
variable {pend:List Nat}
variable {rv v:Value}
variable {w w':World}
set_option maxHeartbeats 4000000
set_option maxRecDepth 20000
open Go.RowKit
def Hw (w0 w:World) (g gs room:Nat) (cs:Lz) (fr:List Nat):Prop:=(∃vp vf,Stm w g gs vp vf room cs fr∧(∀k∈stB g gs vp vf cs,w0.heap.size≤k)∧Kb w0 w)∧Wf cs []
theorem Znv (K:Lq) (v:Value) (bs:Lq) (hb:Bytes bs) (hl:bs.length≤1024):LeafOk (lfC (lfD K (vaD bs)) K v bs):=⟨rfl,rfl,rfl,rfl,rfl,rfl,hl,hb⟩
theorem Wf.kinds (w:Wf cs pend) (i:Nat) (hi:0<cc cs i):(ce cs i).kind=1∨(ce cs i).kind=2:=by
 rcases w.tr i hi with h | h
 ·exact .inl h.kind
 ·exact .inr h.kind
theorem Zov (w:Wf cs pend) {h d:Nat} {b:Int} (m:mayP cs (h:Int)) (hf:fsP (sdC cs h) d b=true):SideOk cs d b h:=by
 rcases m.side with e | ⟨h1,h2,h3⟩
 ·exact .inl e
 ·refine .inr ⟨h1,h2,?_⟩;unfold sdC at hf;rw [if_neg (by omega)] at hf;unfold fsP at hf;rcases w.kinds _ h2 with k | k
  ·rw [if_pos k] at hf;exact ⟨by simpa using hf,.inl k⟩
  ·rw [if_neg (by omega),if_pos k] at hf;simp only [Bool.and_eq_true,decide_eq_true_eq] at hf;exact ⟨hf.2,.inr ⟨k,hf.1⟩⟩
theorem Yaj (w:Wf cs pend) {h:Nat} (m:mayP cs (h:Int)):(sdC cs h).kind=0↔h=0:=by
 constructor
 ·intro e;rcases m.side with e2 | ⟨h1,h2,h3⟩
  ·exact e2
  ·unfold sdC at e;rw [if_neg (by omega)] at e;rcases w.kinds _ h2 with k | k <;> omega
 ·rintro rfl;rfl
theorem Zvx (w:Wf cs pend) {d l r:Nat} {K:Lq} {u:Bool} (hd:d<256) (ml:mayP cs (l:Int)) (mr:mayP cs (r:Int)) (hu:u=true↔Und (sdC cs l).key (sdC cs r).key (d:Int)) (hf:fitP d (sdC cs l) (sdC cs r) u=true) (hK:IsFill (if (sdC cs l).kind=0 then (sdC cs r).key else (sdC cs l).key) d 0 K):InnOk cs (inC (inD (sdD cs l) (sdD cs r)) K ((sdC cs l).sz+(sdC cs r).sz) d l r):=by
 unfold fitP at hf;simp only [Bool.and_eq_true,Bool.or_eq_true,decide_eq_true_eq] at hf;obtain ⟨h1,h2,h3,h4⟩:=hf;refine ⟨rfl,hd,rfl,rfl,Zov w ml h2,Zov w mr h3,rfl,h1,fun hl hr=>?_,?_,rfl⟩
 ·rcases h4 with h4 | h4 | h4
  ·exact absurd ((Yaj w ml).1 h4) hl
  ·exact absurd ((Yaj w mr).1 h4) hr
  ·exact hu.1 h4
 ·by_cases e:l=0
  ·have:=(Yaj w ml).2 e;rw [if_pos this] at hK;show IsFill (if l=0 then _ else _) d 0 K;rw [if_pos e];exact hK
  ·have: ¬(sdC cs l).kind=0:=fun q=>e ((Yaj w ml).1 q)
   rw [if_neg this] at hK;show IsFill (if l=0 then _ else _) d 0 K;rw [if_neg e];exact hK
theorem mayP.own (m:mayP cs (h:Int)) (h0:h≠0):0<Go.Proofs.YtlclabbnpjobgaaGreatDoor.own cs [] (h-1):=by
 rcases m.side with e | ⟨_,_,e⟩
 ·exact absurd e h0
 ·unfold Go.Proofs.YtlclabbnpjobgaaGreatDoor.own;rw [List.count_nil];omega
theorem Zjf (D:Lq) (h:D.length=32):(Tryz.prog.info? 48).map (·.size)=some (B D).toList.length:=by rw [Zaz,List.length_map,h];exact Zi
theorem Yax {ct:Int→Nat} {ca:Int→Ce} (V:Vw w v true ct ca) (h:Int) (K:Lq) (hK:Key K) (hk:(ca h).kind=2) (hd:(ca h).dp<256):Kc 162 #[v,.int .i64 h,.agg (B K)] w fun e w'=>e=.returned (.tuple #[.int .i64 ((if kb K (ca h).dp=1 then (ca h).r else (ca h).l:Nat):Int),.int .i64 ((if kb K (ca h).dp=1 then (ca h).l else (ca h).r:Nat):Int)])∧Kb w w':=by
 have HSD:Hid (Kr w 43 #[v,.int .i64 h] (.tuple #[.int .i64 ((ca h).l:Int),.int .i64 ((ca h).r:Int)])):=fun w' hb=>Zhr (V.grow hb) h
 have HDP:Hid (Kr w 45 #[v,.int .i64 h] (.int .i64 ((ca h).dp:Int))):=fun w' hb=>by
  have:=Zmj (V.grow hb) h;rwa [show vDp true (ca h)=((ca h).dp:Int) by simp [vDp,hk]] at this
 have HBT:Hid (∀w',Kc 44 #[.agg (B K),.int .i64 ((ca h).dp:Int)] w' fun e w''=>e=.returned (.int .i64 (kb K (ca h).dp))∧Below w'.heap.size w' w''):=fun w'=>by
  have:=Zxn K ((ca h).dp:Int) w' hK;rwa [Zei K _ hd] at this
 have HPL:=Za (Zjf K hK.1);clear V hk hd hK;generalize (ca h).l=l at HSD ⊢;generalize (ca h).r=r at HSD ⊢;generalize (ca h).dp=d at HDP HBT ⊢;have hq:=Zfp K d;generalize kb K d=q at HBT hq ⊢;generalize hdd:(d:Int)=dd at HDP HBT;clear hdd;rcases hq with rfl | rfl
 ·rw [if_neg (by omega),if_neg (by omega)];go_enter Tryz.func162,Tryz.ntmps162
  go_wp2_with (first
   |((with_reducible refine Zo 5 ?_);refine Zd _ rfl _ _ rfl _ rfl ?_;intro w1 b5 hg5 hl5 B5 q5;have HB5:=Za B5;have HQ5:=Za q5;clear hg5 hl5 B5 q5)
   |(go_at_call 43;refine (HSD.out _ HQ5.out).mono ?_;rintro e w2 ⟨rfl,b2⟩;have HB52:=Za (HB5.out.grow b2);have HQ2:=Za (Zb HQ5.out b2);clear b2))
  refine wp_region_held_drew (S:=fun w'=>Kb w2 w') (by kernel_rfl) ((below_drewN (Below.refl _ _) 1)) (fun hHeld=>?_);refine tkg 0 (.agg (B K)) rfl (yieldsIf_load_mid rfl 48 (.tmp 5) rfl b5 0 rfl (B K).toList _ (fun w hS=>(HB52.out.grow hS).range) Tryz.underlying48 rfl HPL.out) hHeld ?_;simp only [zq];refine tkp 1 v hHeld ?_;simp only [zq];refine tkp 2 (.int .i64 h) hHeld ?_;simp only [zq];refine wpAnyH_ready (rs:=[3]) (by kernel_rfl) (by simp) ?_;refine AllReadyH.cons rfl (fun KQ hK=>?_) AllReadyH.nil;go_simp;refine (HDP.out _ (Zb HQ2.out hHeld)).mono ?_;rintro e z1 ⟨rfl,a1⟩;refine hK.out _ _ (Zb hHeld a1) (fun hHeld=>?_);clear hK KQ;refine wpAnyH_ready (rs:=[4]) (by kernel_rfl) (by simp) ?_;refine AllReadyH.cons rfl (fun KQ hK=>?_) AllReadyH.nil;go_simp;refine (HBT.out _).mono ?_;rintro e z2 ⟨rfl,a2⟩;refine hK.out _ _ (Zb hHeld a2) (fun hHeld=>?_);clear hK KQ;refine tkp 5 (.bool false) hHeld ?_;simp only [zq];refine wpAnyH_done (by kernel_rfl) ?_ _;go_wp2
  go_ret2;exact ⟨rfl,Zb HQ2.out hHeld⟩
 ·rw [if_pos rfl,if_pos rfl];go_enter Tryz.func162,Tryz.ntmps162
  go_wp2_with (first
   |((with_reducible refine Zo 5 ?_);refine Zd _ rfl _ _ rfl _ rfl ?_;intro w1 b5 hg5 hl5 B5 q5;have HB5:=Za B5;have HQ5:=Za q5;clear hg5 hl5 B5 q5)
   |(go_at_call 43;refine (HSD.out _ HQ5.out).mono ?_;rintro e w2 ⟨rfl,b2⟩;have HB52:=Za (HB5.out.grow b2);have HQ2:=Za (Zb HQ5.out b2);clear b2))
  refine wp_region_held_drew (S:=fun w'=>Kb w2 w') (by kernel_rfl) ((below_drewN (Below.refl _ _) 1)) (fun hHeld=>?_);refine tkg 0 (.agg (B K)) rfl (yieldsIf_load_mid rfl 48 (.tmp 5) rfl b5 0 rfl (B K).toList _ (fun w hS=>(HB52.out.grow hS).range) Tryz.underlying48 rfl HPL.out) hHeld ?_;simp only [zq];refine tkp 1 v hHeld ?_;simp only [zq];refine tkp 2 (.int .i64 h) hHeld ?_;simp only [zq];refine wpAnyH_ready (rs:=[3]) (by kernel_rfl) (by simp) ?_;refine AllReadyH.cons rfl (fun KQ hK=>?_) AllReadyH.nil;go_simp;refine (HDP.out _ (Zb HQ2.out hHeld)).mono ?_;rintro e z1 ⟨rfl,a1⟩;refine hK.out _ _ (Zb hHeld a1) (fun hHeld=>?_);clear hK KQ;refine wpAnyH_ready (rs:=[4]) (by kernel_rfl) (by simp) ?_;refine AllReadyH.cons rfl (fun KQ hK=>?_) AllReadyH.nil;go_simp;refine (HBT.out _).mono ?_;rintro e z2 ⟨rfl,a2⟩;refine hK.out _ _ (Zb hHeld a2) (fun hHeld=>?_);clear hK KQ;refine tkp 5 (.bool true) hHeld ?_;simp only [zq];refine wpAnyH_done (by kernel_rfl) ?_ _;go_wp2
  go_ret2;exact ⟨rfl,Zb HQ2.out hHeld⟩
def HdPost (hs:List Nat) (fin:Int) (w:World) (e:Ending) (w':World):Prop:=
 ∃a c,e=.returned (.tuple #[.slice a hs.length c,.int .i64 fin,.int .i64 0])∧w'.ownsRow w.heap.size 3 1 (.slice a hs.length c) hs.length (nats hs)∧Kb w w'
def sLen:Value→Nat
 | .slice _ n _=>n
 | _=>0
theorem Zen (h1:1≤h):cat cs (h:Int)=ce cs (h-1):=by
 rw [Zac,sdC,if_neg (by omega)]
theorem Zij (V:Vw w v true (cot cs) (cat cs)) (W:Wf cs pend) (h:Nat) (T:Tre) (hT:IsT cs h T) (K:Lq) (hK:Key K) (he:vRt true (cot cs h) (cat cs h) h=0):Kc 126 #[v,.int .i64 (h:Int),.agg (B K)] w (HdPost (T.hs K h) (T.fin K h) w):=by
 have HR:Hid (Kr w 41 #[v,.int .i64 (h:Int)] (.int .i64 0)):=fun w' hb=>by
  have:=Zcu (V.grow hb) (h:Int);rwa [he] at this
 have HPS:Hid ((Tryz.prog.info? 48).map (·.size)=some (B K).size):=by show _=_;rw [Zn,hK.1];exact Zi
 have HV:=Za V;have HW:=Za W;have HK:=Za hK;have HT:=Za hT;have HN:Hid ((T.hs K h).length≤256):=by
  show _≤_;rw [Tre.hs_oth]
  by_cases k:(sdC cs h).kind=2
  ·have:=(Zcr W K T h (sdC cs h).dp hT (fun _=>rfl) (by
    match T,hT with
    | .emp,e=>exact absurd k (by rw [show h=0 from e];show ¬zc.kind=2;decide)
    | .lf _ _,⟨h1,_,h3,_⟩=>rw [sdC,if_neg (by omega)] at k;omega
    | .nd d hl hr L R,hT=>
     have:=(Zit W hT).dp;obtain ⟨h1,_,_,h4,_⟩:=hT;rw [sdC,if_neg (by omega),h4];omega)).2.2
   omega
  ·have:=(Zcr W K T h 0 hT (fun q=>absurd q k) (by omega)).2.2;omega
 have HPost:Hid (∀a c w',w'.ownsRow w.heap.size 3 1 (.slice a (T.hs K h).length c) (T.hs K h).length (nats (T.hs K h))→Kb w w'→HdPost (T.hs K h) (T.fin K h) w (.returned (.tuple #[.slice a (T.hs K h).length c,.int .i64 (T.fin K h:Int),.int .i64 0])) w'):=fun a c w' h1 h2=>⟨a,c,rfl,h1,h2⟩
 obtain ⟨hh,hhe⟩:∃y:Int,y=(h:Int):=⟨_,rfl⟩;rw [← hhe] at HR ⊢;have HHE:=Za hhe;clear V W hK hT he hhe;generalize HE:HdPost (T.hs K h) (T.fin K h) w=P at HPost ⊢;go_enter Tryz.func126,Tryz.ntmps126
 go_wp2_with (first
  |((with_reducible refine Zo 5 ?_);refine Zd _ rfl _ _ rfl _ rfl ?_;intro w1 b5 hg5 hl5 B5 q5;have HB5:=Za B5;have HQ5:=Za q5;have HG5:=Za hg5;clear hg5 hl5 B5 q5)
  |(go_at_call 41;refine (HR.out _ HQ5.out).mono ?_;rintro e w2 ⟨rfl,b2⟩;have HB52:=Za (HB5.out.grow b2);have HQ2:=Za (Zb HQ5.out b2);clear b2))
 clear HR HB5 HQ5 HG5
 go_loopw [6,7] (fun wv ev wr=>∃(pre:List Nat) (x:Nat) (U:Tre) (a:Option Addr) (n c:Nat),wv=.slice a n c∧ev=.int .i64 (x:Int)∧Hid (n=pre.length)∧Hid (wr.ownsRow w2.heap.size 3 1 (.slice a n c) n (nats pre))∧Hid (IsT cs x U∧pre++U.hs K x=T.hs K h∧U.fin K x=T.fin K h)∧Hid (Kb w2 wr)) (fun wv _ _=>300-sLen wv)
 case atStart=>exact ⟨[],h,T,none,0,0,rfl,by rw [HHE.out],rfl,World.ownsRow_nil _ _ _ _,⟨HT.out,rfl,rfl⟩,Below.refl _ _⟩
 case round=>
  clear HT HHE;obtain ⟨pre,x,U,a,n,c,rfl,rfl,hn,hO,hU,hB⟩:=hrel;have HVR:=Za (HV.out.grow (Zb HQ2.out hB.out));have hlen:n+(U.hs K x).length=(T.hs K h).length:=by
   have:=congrArg List.length hU.out.2.1;rw [List.length_append] at this;rw [hn.out];exact this
  have h256:=HN.out;have HKD:Hid (Kc 42 #[v,.int .i64 (x:Int)] wr fun e w'=>e=.returned (.int .u8 (cat cs (x:Int)).kind)∧Kb wr w'):=Zkq HVR.out (x:Int);have HFin:Hid (U.hs K x=[]→U.fin K x=x→∀w',Kb wr w'→P (.returned (.tuple #[.slice a n c,.int .i64 (x:Int),.int .i64 0])) w'):=fun e1 e2 w' hb=>by
   have q1:=hU.out.2.1;rw [e1,List.append_nil] at q1;have q2:=hU.out.2.2;rw [e2] at q2;have q3:=hn.out;have hO':=Zl (Zaj hO.out HQ2.out.size) hb;rw [q3,q1] at hO';rw [q3,q1,q2];exact HPost.out a c w' hO' (Zb (Zb HQ2.out hB.out) hb)
  cases U with
  | emp=>
   have hx:x=0:=hU.out.1;have HKZ:Hid ((cat cs (x:Int)).kind=0):=by rw [hx];rfl
   rw [HKZ.out] at HKD;have HF:=Za (HFin.out rfl rfl);generalize (x:Int)=y at HKD HF ⊢;clear HFin HKZ hx hU hlen h256 HVR
   go_wp2_with (first
    |(go_at_call 42;refine HKD.out.mono ?_;rintro e w3 ⟨rfl,b3⟩;have HB3:=Za b3;clear b3))
   go_ret3;exact HF.out _ HB3.out
  | lf k b=>
   obtain ⟨h1,h2,h3,h4,h5⟩:=hU.out.1;have HKZ:Hid ((cat cs (x:Int)).kind=1):=by rw [Zen h1];exact h3
   rw [HKZ.out] at HKD;have HF:=Za (HFin.out rfl rfl);generalize (x:Int)=y at HKD HF ⊢;clear HFin HKZ hU hlen h256 HVR h1 h2 h3 h4 h5
   go_wp2_with (first
    |(go_at_call 42;refine HKD.out.mono ?_;rintro e w3 ⟨rfl,b3⟩;have HB3:=Za b3;clear b3))
   go_ret3;exact HF.out _ HB3.out
  | nd d hl hr L R=>
   have hno:=Zit HW.out hU.out.1;obtain ⟨h1,h2,h3,h4,h5,h6,h7,h8⟩:=hU.out.1;have hca:=Zen (cs:=cs) h1;rw [show (cat cs (x:Int)).kind=2 by rw [hca];exact h3] at HKD;have HFK:Hid (Kr w 162 #[v,.int .i64 (x:Int),.agg (B K)] (.tuple #[.int .i64 ((if kb K d=1 then hr else hl:Nat):Int),.int .i64 ((if kb K d=1 then hl else hr:Nat):Int)])):=fun w' hb=>by
    have:=Yax (HV.out.grow hb) (x:Int) K HK.out (by rw [hca];exact h3) (by rw [hca,h4];exact hno.dp);rw [hca,h4,h5,h6] at this;exact this
   have hcut:(Tre.nd d hl hr L R).hs K x=x::(if kb K d=1 then R.hs K hr else L.hs K hl):=rfl;have hfi:(Tre.nd d hl hr L R).fin K x=(if kb K d=1 then R.fin K hr else L.fin K hl):=rfl;have HNX:Hid (∃U',IsT cs (if kb K d=1 then hr else hl) U'∧(pre++[x])++U'.hs K (if kb K d=1 then hr else hl)=T.hs K h∧U'.fin K (if kb K d=1 then hr else hl)=T.fin K h):=by
    have q1:=hU.out.2.1;have q2:=hU.out.2.2;rw [hcut] at q1;rw [hfi] at q2;show ∃_,_
    by_cases q:kb K d=1
    ·rw [if_pos q] at q1 q2 ⊢;exact ⟨R,h8,by rw [List.append_assoc];exact q1,q2⟩
    ·rw [if_neg q] at q1 q2 ⊢;exact ⟨L,h7,by rw [List.append_assoc];exact q1,q2⟩
   have hn256:n+1≤256:=by
    rw [hcut,List.length_cons] at hlen;omega
   generalize (if kb K d=1 then hr else hl:Nat)=m1 at HFK HNX;generalize (if kb K d=1 then hl else hr:Nat)=m2 at HFK;obtain ⟨y,hy⟩:∃y:Int,y=(x:Int):=⟨_,rfl⟩;rw [← hy] at HKD HFK;rw [← hy];have HY:=Za hy;have H256:=Za hn256;clear HFin hU hlen h256 HVR h1 h2 h3 h4 h5 h6 h7 h8 hca hcut hfi hno hy hn256
   go_wp2_with (first
    |(go_at_call 42;refine HKD.out.mono ?_;rintro e w3 ⟨rfl,b3⟩;have HB3:=Za b3;have HO3:=Za ((Zl (Zl hO.out b3) (Zc w3 (.cells #[.int .i64 y] 3))));clear b3)
    |(at_builtin;refine Zai _ rfl _ _ _ rfl w2.heap.size 3 1 8 Tryz.underlying28 Zah (by omega) _ n (nats pre) rfl HO3.out w3.heap.size [Value.int .i64 y] rfl (Blk.new _ _ _) rfl (by intro u hu;simp at hu;subst hu;rfl) (by have:=H256.out;simp only [maxLen];omega) (by have:=H256.out;omega) (Nat.le_trans hB.out.size (Nat.le_trans HB3.out.size (by simp))) ?_;intro a4 c4 w4 o4 g4;have HO4:=Za o4;have HB4:=Za (Zaf (Zb (Zb hB.out HB3.out) (Zc w3 (.cells #[.int .i64 y] 3))) HO3.out (Nat.le_refl _) g4);clear o4 g4)
    |((with_reducible refine Zk 30 5 ?_);refine Zg _ rfl _ _ rfl b5 _ rfl (HB52.out.grow HB4.out) _ _ Tryz.underlying48 HPS.out ?_)
    |(go_at_call 162;refine (HFK.out _ (Zb HQ2.out HB4.out)).mono ?_;rintro e w5 ⟨rfl,b5'⟩;have HB5:=Za b5';clear b5'))
   obtain ⟨U',hU1,hU2,hU3⟩:=HNX.out;have ho5:=Zl HO4.out HB5.out;rw [HY.out,← Zan] at ho5;exact ⟨⟨pre++[x],m1,U',a4,n+1,c4,rfl,rfl,by rw [List.length_append,List.length_singleton,← hn.out];exact rfl,ho5,⟨hU1,hU2,hU3⟩,Zb HB4.out HB5.out⟩,by have:=H256.out;simp only [sLen];omega⟩
def Zs (w:World) (v:Value) (L:Lq):Prop:=∃a c,v=.slice a L.length c∧∀k,k<L.length→∃b off,a=some ⟨b,off,none⟩∧w.cell? ⟨b,off+k,none⟩=some (.int .i64 (L.getD k 0))
theorem Zs.grow (h:Zs w v L) (hb:Kb w w'):Zs w' v L:=by
 obtain ⟨a,c,e,hc⟩:=h;refine ⟨a,c,e,fun k hk=>?_⟩;obtain ⟨b,off,e1,e2⟩:=hc k hk;exact ⟨b,off,e1,Zx hb e2⟩
theorem Yfv (w:World):Zs w (.slice none 0 0) []:=⟨none,0,rfl,fun k hk=>by simp at hk⟩
def zN (R:List Nat):Lq:=R.map Int.ofNat
theorem Zak (R:List Nat):(zN R).length=R.length:=by simp [zN]
theorem Yca (R:List Nat) (k:Nat) (hk:k<R.length):(zN R).getD k 0=(R[k]:Int):=by simp [zN,List.getD,hk]
def frE (ct:Int→Nat) (ca:Int→Ce):Lq→Int
 | []=>0
 | q::L=>if vRt true (ct q) (ca q) q=0 then frE ct ca L else vRt true (ct q) (ca q) q
def auE (ct:Int→Nat) (ca:Int→Ce) (L:Lq):Int:=if 64<L.length then 4 else frE ct ca L
theorem Yav (ct:Int→Nat) (ca:Int→Ce) (L:Lq) (k:Nat) (hk:k<L.length):frE ct ca (L.drop k)=if vRt true (ct (L.getD k 0)) (ca (L.getD k 0)) (L.getD k 0)=0 then frE ct ca (L.drop (k+1)) else vRt true (ct (L.getD k 0)) (ca (L.getD k 0)) (L.getD k 0):=by
 rw [List.drop_eq_getElem_cons hk,List.getD_eq_getElem?_getD,List.getElem?_eq_getElem hk];rfl
theorem Zrn {N:Nat} (h:(k:Int)<(N:Int)):N-(k+1)<N-k:=by omega
theorem Yft {ct:Int→Nat} {ca:Int→Ce} (V:Vw w v false ct ca) (rv:Value):Kc 62 #[v,rv] w fun e w'=>e=.returned (.int .i64 1)∧Kb w w':=by
 have HR:=Za (Zcu V 0);rw [show vRt false (ct 0) (ca 0) 0=1 from rfl] at HR;clear V;go_enter Tryz.func62,Tryz.ntmps62
 go_wp2_with (go_at_call 41;refine HR.out.mono ?_;rintro e w1 ⟨rfl,b1⟩;have HB:=Za b1;clear b1)
 go_ret;exact ⟨rfl,HB.out⟩
theorem Zfm {ct:Int→Nat} {ca:Int→Ce} (V:Vw w v true ct ca) (rv:Value) (L:Lq) (hz:Zs w rv L):Kc 62 #[v,rv] w fun e w'=>e=.returned (.int .i64 (auE ct ca L))∧Kb w w':=by
 have HR:=Za (Zcu V 0);rw [show vRt true (ct 0) (ca 0) 0=0 from rfl] at HR;obtain ⟨a,c,rfl,hc⟩:=hz;have HV:=Za V;have HC:=Za hc;clear V hc
 by_cases h64:64<L.length
 ·rw [show auE ct ca L=4 by simp [auE,h64]];have i1:(64:Int)<(L.length:Int):=by omega
  clear HC HV;generalize L.length=N at *;go_enter Tryz.func62,Tryz.ntmps62
  go_wp2_with (go_at_call 41;refine HR.out.mono ?_;rintro e w1 ⟨rfl,b1⟩;have HB:=Za b1;clear b1)
  go_ret;exact ⟨rfl,HB.out⟩
 ·have he:auE ct ca L=frE ct ca L:=by simp [auE,h64]
  rw [he];have i1: ¬(64:Int)<(L.length:Int):=by omega
  obtain ⟨N,hN⟩:∃n,n=L.length:=⟨_,rfl⟩;rw [← hN] at i1 ⊢;have hN64:N≤64:=by omega
  have HN:=Za hN;clear hN h64 he;go_enter Tryz.func62,Tryz.ntmps62
  go_wp2_with (go_at_call 41;refine HR.out.mono ?_;rintro e w1 ⟨rfl,b1⟩;have HB:=Za b1;clear b1)
  clear HR
  go_loopw [19] (fun iv wr=>∃k:Nat,k≤N∧iv=.int .i64 (k:Int)∧Hid (frE ct ca L=frE ct ca (L.drop k))∧Hid (Kb w wr)) (fun iv _=>N-(intOf iv).toNat)
  case atStart=>exact ⟨0,by omega,rfl,rfl,HB⟩
  case round=>
   obtain ⟨k,hk,rfl,hF,hB⟩:=hrel
   by_cases hlt:k<N
   ·obtain ⟨b,off,rfl,hce⟩:=HC.out k (by rw [← HN.out];exact hlt);have hce:=Zx hB.out hce;have HFD:=Za (Yav ct ca L k (by rw [← HN.out];exact hlt));have HRK:=Za (Zcu (HV.out.grow hB.out) (L.getD k 0));generalize L.getD k 0=q at hce HFD HRK;have k0:(0:Int)≤(k:Int):=by omega
    have k1:(k:Int)<(N:Int):=by omega
    have hwk:wrap64 ((k:Int)+1)=((k+1:Nat):Int):=by rw [Go.IntWalk.wrap64_in _ (by omega)];rfl
    generalize vRt true (ct q) (ca q) q=z at HFD HRK
    by_cases hz:z=0
    ·have HF1:Hid (frE ct ca L=frE ct ca (L.drop (k+1))):=by
      have:=HFD.out;rw [if_pos hz] at this;exact hF.out.trans this
     subst hz;clear HFD hlt hk
     go_wp2_with (go_at_call 41;refine HRK.out.mono ?_;rintro e w1 ⟨rfl,b1⟩;have HB:=Za (Zb hB.out b1);clear b1)
     exact ⟨⟨k+1,by omega,by go_num,HF1,HB⟩,by simp [intOf];exact Zrn k1⟩
    ·have HF1:Hid (frE ct ca L=z):=by
      have:=HFD.out;rw [if_neg hz] at this;exact hF.out.trans this
     clear HFD hlt hk
     go_wp2_with (go_at_call 41;refine HRK.out.mono ?_;rintro e w1 ⟨rfl,b1⟩;have HB:=Za (Zb hB.out b1);clear b1)
     go_ret;rw [HF1.out];exact ⟨rfl,HB.out⟩
   ·obtain rfl:k=N:=by omega
    have nlt: ¬(k:Int)<(k:Int):=by omega
    have HF1:Hid (frE ct ca L=0):=by
     rw [show frE ct ca L=_ from hF.out,List.drop_of_length_le (by rw [HN.out];omega)];rfl
    go_wp2_with fail
    go_ret;rw [HF1.out];exact ⟨rfl,hB.out⟩
def ngS:Array Value:= #[.slice none 0 0,.map none]
theorem Zcj:(Tryz.prog.info? 78).map (·.size)=some 2:=by kernel_rfl
theorem Zdw (w:World):(zeroValue 78).run Tryz.prog w=.ok (.agg ngS) w:=Tryz.zeroValue78 w
theorem Yac (e0:Int) (h:Kr w 62 #[v,rv] (.int .i64 e0)) (h0:e0≠0):Kc 27 #[v,rv] w fun e w'=>e=.returned (.tuple #[.agg ngS,.int .i64 e0])∧Kb w w':=by
 have HR:=Za h;clear h;go_enter Tryz.func27,Tryz.ntmps27
 go_wp2_with (first
  |((with_reducible refine Zv 4 ?_);refine Zh _ rfl _ rfl _ Zdw ?_;intro w1 b1 hg1 hl1 B1 q1;have HB1:=Za B1;have HQ1:=Za q1;have HG1:=Za hg1;clear hg1 hl1 B1 q1)
  |(go_at_call 62;refine (HR.out _ HQ1.out).mono ?_;rintro e w2 ⟨rfl,b2⟩;have HB2:=Za (HB1.out.grow b2);have HQ2:=Za (Zb HQ1.out b2);clear b2)
  |((with_reducible refine Zag 4 ?_);refine Zf _ rfl _ _ _ rfl b1 _ ngS rfl rfl HB2.out Zcj rfl (by simp [ngS,Value.oneCell']) ?_;intro w5 B5 g5;have HB5:=Za B5;have HQ5:=Za (Ze HQ2.out g5 HG1.out);clear B5 g5))
 exact bodyPost_ret (v:=.tuple #[.agg ngS,.int .i64 e0]) (Zbs rfl _ _ b1 _ _ rfl rfl HB5.out Tryz.underlying78 Zcj) rfl ⟨rfl,HQ5.out⟩
def LkPost (cs:Lz) (R:List Nat) (w:World) (e:Ending) (w':World):Prop:=∃P slv bm n,e=.returned (.tuple #[.agg #[slv,.map (some bm)],.int .i64 0])∧RdA cs R P∧w'.ownsRow w.heap.size 3 1 slv (rch P).length (nats (rch P))∧SM w' bm n (wnt P)∧w.heap.size≤bm∧Kb w w'
theorem Sv.new (hm:SM w bm 0 (fun _=>0)) (hb:Blk w bv 78 #[.slice none 0 0,.map (some bm)]) (h1:m≤bv) (h2:m≤bm):Sv m w bv [] (.slice none 0 0) bm 0:=⟨hb,World.ownsRow_nil _ _ _ _,by rw [Zmt];exact hm,Nat.zero_le _,h1,h2⟩
theorem Zkn (V:Vw w v true (cot cs) (cat cs)) (W:Wf cs []) (hcs:cs.length≤65536) (rv:Value) (R:List Nat) (hz:Zs w rv (zN R)) (he:auE (cot cs) (cat cs) (zN R)=0) (hlv:∀h∈R,h≠0→0<cc cs (h-1)):Kc 27 #[v,rv] w (LkPost cs R w):=by
 have HRF:Hid (Kr w 62 #[v,rv] (.int .i64 0)):=fun w' hb=>by
  have:=Zfm (V.grow hb) rv _ (hz.grow hb);rwa [he] at this
 have h64:R.length≤64:=by
  apply Nat.le_of_not_lt;intro q;rw [auE,if_pos (by rw [Zak];exact q)] at he;exact absurd he (by decide)
 obtain ⟨a,c,rfl,hc⟩:=hz;have hRb:∀x∈R,x≤65536:=fun x hx=>by
  by_cases h0:x=0
  ·omega
  ·have:=Zaw (hlv x hx h0);omega
 have HC:Hid (∀k,k<R.length→∃x b off,R[k]?=some x∧x≤65536∧a=some ⟨b,off,none⟩∧w.cell? ⟨b,off+k,none⟩=some (.int .i64 (x:Int))):=fun k hk=>by
  obtain ⟨b,off,e1,e2⟩:=hc k (by rw [Zak];exact hk);refine ⟨R[k],b,off,List.getElem?_eq_getElem hk,hRb _ (List.getElem_mem hk),e1,?_⟩;rw [e2,Yca R k hk]
 have HV:=Za V;have HW:=Za W;have HLV:=Za hlv;have HCS:=Za hcs;have HPost:Hid (∀P slv bm n w',RdA cs R P→w'.ownsRow w.heap.size 3 1 slv (rch P).length (nats (rch P))→SM w' bm n (wnt P)→w.heap.size≤bm→Kb w w'→LkPost cs R w (.returned (.tuple #[.agg #[slv,.map (some bm)],.int .i64 0])) w'):=fun P slv bm n w' q1 q2 q3 q4 q5=>⟨P,slv,bm,n,rfl,q1,q2,q3,q4,q5⟩
 have eL:=Zak R;rw [eL] at HRF ⊢;obtain ⟨N,hN⟩:∃n,n=R.length:=⟨_,rfl⟩;rw [← hN] at HRF ⊢;have HN:=Za hN;have hN64:N≤64:=by omega
 generalize HE:LkPost cs R w=Post at HPost ⊢;have hmm:=@run_makeMap Tryz.prog;clear V W hlv hcs hc he hRb eL hN h64 HE;go_enter Tryz.func27,Tryz.ntmps27
 go_wp2_with (first
  |((with_reducible refine Zv 4 ?_);refine Zh _ rfl _ rfl _ Zdw ?_;intro w1 b4 hg1 hl1 B1 q1;have HB1:=Za B1;have HQ1:=Za q1;have HG1:=Za hg1;clear hg1 hl1 B1 q1)
  |((with_reducible refine Zv 7 ?_);refine Zh _ rfl _ rfl _ Zdw ?_;intro w3 b7 hg1 hl1 B1 q1;have HB3:=Za B1;have HQ3:=Za q1;have HG3:=Za hg1;clear hg1 hl1 B1 q1)
  |(go_at_call 62;refine (HRF.out _ HQ1.out).mono ?_;rintro e w2 ⟨rfl,b2⟩;have HB2:=Za (HB1.out.grow b2);have HQ2:=Za (Zb HQ1.out b2);clear b2)
  |((with_reducible refine Zag 7 ?_);refine Zf _ rfl _ _ _ rfl b7 _ #[.slice none 0 0,.map (some w2.heap.size)] rfl rfl HB3.out Zcj rfl (by simp [Value.oneCell']) ?_;intro w5 B5 g5;have HB5:=Za B5;have HG5:=Za g5;clear B5 g5))
 have HS0:Hid (Sv w2.heap.size w5 b7 (R.take 0) (.slice none 0 0) w2.heap.size 0):=by
  have q2:(w2.alloc (.map #[] 0)).heap.size≤b7:=HG3.out;refine Sv.new ((SM.new w2).grow HQ3.out |>.mod (Mod.of_some HG5.out (List.mem_singleton.2 rfl)) ?_) HB5.out ?_ (Nat.le_refl _)
  ·rw [List.mem_singleton];have:(w2.alloc (.map #[] 0)).heap.size=w2.heap.size+1:=by simp
   omega
  ·have:(w2.alloc (.map #[] 0)).heap.size=w2.heap.size+1:=by simp
   omega
 have HL5:Hid (Kb w w5):=Ze (Zb (Zb HQ2.out (Zc w2 _)) HQ3.out) HG5.out (by
  have q:w.heap.size≤w2.heap.size:=HQ2.out.size;have q2:(w2.alloc (.map #[] 0)).heap.size≤b7:=HG3.out;have:(w2.alloc (.map #[] 0)).heap.size=w2.heap.size+1:=by simp
  omega)
 have HB4:Hid (∃X:Array Value,X.size=2∧Blk w5 b4 78 X):=⟨ngS,rfl,((HB2.out.grow (Zc w2 _)).grow HQ3.out).kept HG5.out (by
  have q:=HB2.out.lt;have q2:(w2.alloc (.map #[] 0)).heap.size≤b7:=HG3.out;have:(w2.alloc (.map #[] 0)).heap.size=w2.heap.size+1:=by simp
  omega)⟩
 have HM2:Hid (w.heap.size≤w2.heap.size):=HQ2.out.size;have HL4:Hid (b4<w2.heap.size):=HB2.out.lt;have HW4:Hid (w.heap.size≤b4):=HG1.out;generalize w2.heap.size=bm at *;clear HB1 HQ1 HG1 HB2 HQ2 HB3 HQ3 HG3 HG5 HB5 HRF hmm;have HLW:Hid (∀wr,Below bm w5 wr→Kb w wr):=fun wr hb=>HL5.out.trans (hb.mono HM2.out)
 go_loopw [24] (fun iv wr=>∃(k:Nat) (slv:Value) (n:Nat),k≤N∧iv=.int .i64 (k:Int)∧Hid (Sv bm wr b7 (R.take k) slv bm n)∧Hid (Below bm w5 wr)) (fun iv _=>N-(intOf iv).toNat)
 case atStart=>exact ⟨0,_,_,by omega,rfl,HS0,Below.refl _ _⟩
 case round=>
  clear HS0;obtain ⟨k,slv,n,hk,rfl,hS,hB⟩:=hrel
  by_cases hlt:k<N
  ·obtain ⟨x,b,off,hx,hx6,rfl,hce⟩:=HC.out k (by rw [← HN.out];exact hlt);have hce:=Zx (HLW.out wr hB.out) hce;have HWA:=Za (Zjs hS.out x (by omega) (by rw [List.length_take];have:=hN64;omega));have HTK:Hid (R.take (k+1)=R.take k++[x]):=by
    show _=_;rw [List.take_add_one,hx];rfl
   have k0:(0:Int)≤(k:Int):=by omega
   have k1:(k:Int)<(N:Int):=by omega
   have hwk:wrap64 ((k:Int)+1)=((k+1:Nat):Int):=by rw [Go.IntWalk.wrap64_in _ (by omega)];rfl
   clear hx hx6 hlt hk
   go_wp2_with (go_at_call 63;refine HWA.out.mono ?_;rintro e w6 ⟨rfl,⟨s6,n6,q6⟩,b6⟩;rw [← HTK.out] at q6;have HS6:=Za q6;have HB6:=Za (hB.out.trans b6);clear b6 q6)
   exact ⟨⟨k+1,s6,n6,by omega,by go_num,HS6,HB6⟩,by simp [intOf];exact Zrn k1⟩
  ·obtain rfl:k=N:=by omega
   have nlt: ¬(k:Int)<(k:Int):=by omega
   have HS1:Hid (∃P,P=R∧Sv bm wr b7 P slv bm n):=⟨R,rfl,by have:=hS.out;rwa [List.take_of_length_le (by rw [HN.out];omega)] at this⟩;clear hS HC hlt hk
   go_wp2_with fail
   go_loopw [10] (fun iv wr=>∃(j:Nat) (P:List Nat) (slv:Value) (n:Nat),iv=.int .i64 (j:Int)∧Hid (Lk cs R P j)∧Hid (Sv bm wr b7 P slv bm n)∧Hid (Below bm w5 wr)) (fun iv _=>65540-(intOf iv).toNat)
   case atStart=>exact ⟨0,R,slv,n,rfl,Lk.start cs R,by obtain ⟨P,e,q⟩:=HS1.out;rw [← e];exact q,hB⟩
   case round=>
    clear HS1 hB;obtain ⟨j,P,slv,n,rfl,hK,hS,hB⟩:=hrel;have HLN:Hid ((rch P).length≤65537):=by
     show _≤_;have:=Zhu HW.out HLV.out hK.out.rc;have:=HCS.out;omega
    obtain ⟨la,lc,hsl⟩:=Zj (Zu hS.out.lst)
    by_cases hlt:j<(rch P).length
    ·obtain ⟨lg,lc',hsl',_⟩:=Zat (Zu hS.out.lst) (by omega);rw [hsl] at hsl';injection hsl' with e1 e2 e3;subst e1;have c0:=hS.out.cells.1;have hcl:=Zay (by have:=Zu hS.out.lst;rw [hsl] at this;exact this) j (by omega);rw [Zhd _ j hlt] at hcl;rw [hsl] at c0;have hxm:(rch P)[j]∈rch P:=List.getElem_mem hlt;have hxl:=(hK.out.rc _ ((Zdn P _).1 hxm).2 ((Zdn P _).1 hxm).1).live HW.out HLV.out;have HST:=Za (hK.out.step hlt);have hgd:(rch P).getD j 0=(rch P)[j]:=by rw [List.getD_eq_getElem?_getD,List.getElem?_eq_getElem hlt];rfl
     rw [hgd] at hcl;have HLR:Hid (∀q,q=(ce cs ((rch P)[j]-1)).l∨q=(ce cs ((rch P)[j]-1)).r→q≤65536):=fun q hq=>by
      by_cases q0:q=0
      ·omega
      ·have:=Zaw (Wf.sides HW.out.ab HW.out.le _ hxl.2 q hq q0);have:=HCS.out;omega
     have HSD:=Za (Zhr (HV.out.grow (HLW.out wr hB.out)) ((rch P)[j]:Int));rw [Zen (by omega)] at HSD;generalize hxx:(rch P)[j]=x at *;have HPL:Hid (P.length≤64+2 * 65537):=by
      show _≤_;have h1:=hK.out.len;have h2:=HN.out;have h3:=HLN.out;omega
     have j0:(0:Int)≤(j:Int):=by omega
     have j1:(j:Int)<((rch P).length:Int):=by omega
     have hj6:j≤65537:=by have:=HLN.out;omega
     have hwj:wrap64 ((j:Int)+1)=((j+1:Nat):Int):=by rw [Go.IntWalk.wrap64_in _ (by omega)];rfl
     have HW1:Hid (∀w6,Kb wr w6→Kc 63 #[.pointer (some ⟨b7,0,none⟩),.int .i64 ((ce cs (x-1)).l:Int)] w6 fun e w'=>e=.returned (.tuple #[])∧(∃slv' n',Sv bm w' b7 (P++[(ce cs (x-1)).l]) slv' bm n')∧Below bm w6 w'):=fun w6 b6=>Zjs (hS.out.grow b6) _ (by have:=HLR.out _ (.inl rfl);omega) (by have:=HPL.out;omega)
     have HW2:Hid (∀w6 s6 n6,Sv bm w6 b7 (P++[(ce cs (x-1)).l]) s6 bm n6→Kc 63 #[.pointer (some ⟨b7,0,none⟩),.int .i64 ((ce cs (x-1)).r:Int)] w6 fun e w'=>e=.returned (.tuple #[])∧(∃slv' n',Sv bm w' b7 (P++[(ce cs (x-1)).l]++[(ce cs (x-1)).r]) slv' bm n')∧Below bm w6 w'):=fun w6 s6 n6 q6=>Zjs q6 _ (by have:=HLR.out _ (.inr rfl);omega) (by have:=HPL.out;rw [List.length_append,List.length_singleton];omega)
     have HBM:Hid (bm≤wr.heap.size):=Nat.le_of_lt (hS.out.lm |> fun _=>hS.out.mp.lt);generalize (ce cs (x-1)).l=l at *;generalize (ce cs (x-1)).r=r at *;clear hK hS hlt hxm hxl HLR HPL HLN hgd hxx;generalize (rch P).length=m at *;clear hsl
     go_wp2_with (first
      |(go_at_call 43;refine HSD.out.mono ?_;rintro e w6 ⟨rfl,b6⟩;have HQ6:=Za b6;clear b6)
      |(go_at_call 63;have mk:=HM7;clear mk;refine (HW2.out _ _ _ HS7.out).mono ?_;rintro e w8 ⟨rfl,⟨s8,n8,q8⟩,b8⟩;have HS8:=Za q8;have HB8:=Za (HB7.out.trans b8);clear b8 q8)
      |(go_at_call 63;refine (HW1.out _ HQ6.out).mono ?_;rintro e w7 ⟨rfl,⟨s7,n7,q7⟩,b7'⟩;have HS7:=Za q7;have HB7:=Za ((hB.out.trans (HQ6.out.mono HBM.out)).trans b7');have HM7:Hid True:=trivial;clear b7' q7))
     exact ⟨⟨j+1,_,s8,n8,by go_num,HST,HS8,HB8⟩,by simp [intOf];omega⟩
    ·have c0:=hS.out.cells.1;rw [hsl] at c0;have HRD:=Za (hK.out.fin (by omega));have nlt2: ¬(j:Int)<((rch P).length:Int):=by omega
     obtain ⟨X,hX2,hX⟩:=HB4.out;have HX:Hid (Blk wr b4 78 X):=hX.of_block (hB.out.block b4 HL4.out);have HXS:Hid (X.size=2):=hX2;have HSV:Hid (Blk wr b7 78 #[.slice la (rch P).length lc,.map (some bm)]):=by
      have:=hS.out.blk;rw [hsl] at this;exact this
     have HF:Hid (∀w',Blk wr b4 78 X→wr.grownBy w' (some b4)→Post (.returned (.tuple #[.agg #[.slice la (rch P).length lc,.map (some bm)],.int .i64 0])) w'):=fun w' _ hg=>by
      have md:Mod [b4] wr w':=Mod.of_some hg (by simp);have q1:=hS.out.lst;rw [hsl] at q1;have hne:bm≠b4:=by have:=HL4.out;omega
      refine HPost.out P _ bm n w' HRD.out (Zaj (Zck q1 md (fun g hg e=>?_)) HM2.out) (hS.out.mp.mod md (by simpa using hne)) HM2.out ((HLW.out wr hB.out).trans (md.below (fun q hq=>?_) (HLW.out wr hB.out).size))
      ·have:=(q1.lt g hg).1;have e':g=b4:=by simpa using e
       have:=HL4.out;omega
      ·have e':q=b4:=by simpa using hq
       rw [e'];exact HW4.out
     generalize (rch P).length=m at *;clear hK hS hsl hlt HLN HRD hX hX2
     go_wp2_with (first
      |((with_reducible refine Zk 52 7 ?_);refine Zqn _ rfl _ _ rfl b7 _ _ rfl HSV.out Tryz.underlying78 Zcj ?_)
      |((with_reducible refine Zag 4 ?_);refine Zf _ rfl _ _ _ rfl b4 X #[.slice la m lc,.map (some bm)] rfl rfl HX.out Zcj HXS.out (by simp [Value.oneCell']) ?_;intro w9 B9 g9;have HB9:=Za B9;have HG9:=Za g9;clear B9 g9))
     exact bodyPost_ret (v:=.tuple #[.agg #[.slice la m lc,.map (some bm)],.int .i64 0]) (Zbs rfl _ _ b4 _ _ rfl rfl HB9.out Tryz.underlying78 Zcj) rfl (HF.out _ HX.out HG9.out)
def LkBad (w:World) (v rv:Value) (e0:Int):Prop:=Kr w 27 #[v,rv] (.tuple #[.agg ngS,.int .i64 e0])
theorem Zeg {ct:Int→Nat} {ca:Int→Ce} (V:Vw w v true ct ca) {rv:Value} {L:Lq} (hz:Zs w rv L) (h0:auE ct ca L≠0):LkBad w v rv (auE ct ca L):=fun _ hb=>Yac _ (fun _ hb'=>Zfm (V.grow (Zb hb hb')) rv L (hz.grow (Zb hb hb'))) h0
theorem Znm {e0:Int} (h:LkBad w v rv e0) (h0:e0≠0):Kc 8 #[v,rv] w fun e w'=>e=.returned (.tuple #[.slice none 0 0,.int .i64 e0])∧Kb w w':=by
 have HL:=Za (h w (Below.refl _ _));clear h;go_enter Tryz.func8,Tryz.ntmps8
 go_wp2_with (first
  |(go_at_call 27;refine HL.out.mono ?_;rintro e w1 ⟨rfl,b1⟩;have HB1:=Za b1;clear b1)
  |((with_reducible refine Zv 6 ?_);refine Zh _ rfl _ rfl _ Zdw ?_;intro w2 b6 hg1 hl1 B2 q2;have HB2:=Za B2;have HQ2:=Za (Zb HB1.out q2);have HG2:=Za hg1;clear hg1 hl1 B2 q2)
  |((with_reducible refine Zag 6 ?_);refine Zf _ rfl _ _ _ rfl b6 _ ngS rfl rfl HB2.out Zcj rfl (by simp [ngS,Value.oneCell']) ?_;intro w3 B3 g3;have HQ3:=Za (Ze HQ2.out g3 (Nat.le_trans HB1.out.size HG2.out));clear B3 g3))
 go_ret2;exact ⟨rfl,HQ3.out⟩
theorem Zpm {e0:Int} (h:LkBad w v rv e0) (h0:e0≠0):Kc 9 #[v,rv] w fun e w'=>e=.returned (.tuple #[.slice none 0 0,.int .i64 e0])∧Kb w w':=by
 have HL:=Za (h w (Below.refl _ _));clear h;go_enter Tryz.func9,Tryz.ntmps9
 go_wp2_with (first
  |(go_at_call 27;refine HL.out.mono ?_;rintro e w1 ⟨rfl,b1⟩;have HB1:=Za b1;clear b1)
  |((with_reducible refine Zv 6 ?_);refine Zh _ rfl _ rfl _ Zdw ?_;intro w2 b6 hg1 hl1 B2 q2;have HB2:=Za B2;have HQ2:=Za (Zb HB1.out q2);have HG2:=Za hg1;clear hg1 hl1 B2 q2)
  |((with_reducible refine Zag 6 ?_);refine Zf _ rfl _ _ _ rfl b6 _ ngS rfl rfl HB2.out Zcj rfl (by simp [ngS,Value.oneCell']) ?_;intro w3 B3 g3;have HQ3:=Za (Ze HQ2.out g3 (Nat.le_trans HB1.out.size HG2.out));clear B3 g3))
 go_ret2;exact ⟨rfl,HQ3.out⟩
end Go.Proofs.YtlclabbnpjobgaaGreatDoor
