/- The document's store that a walk keeps, said in the program's cells: each call of it. -/
import Derived.Test.YtgfdgjkbcdmboaaGreatDoorDs29
namespace Go.Proofs.YtgfdgjkbcdmboaaGreatDoor
variable {S fr fr' pend st:List Nat}
variable {T:Tre}
variable {cs cs':Lz}
variable {d g gs h k l m n r room:Nat}
variable {mk:Bool}
variable {ss:List Sp}
variable {v vf vp:Value}
variable {w w' w0 w1 w2:World}
set_option maxHeartbeats 4000000
set_option maxRecDepth 20000
open Go.RowKit
theorem Yji (h:Inv room (cs.map pl) fr) (hl:cs'.length=cs.length) (hc:∀i,cc cs' i=cc cs i) (hn:noc cs'=noc cs):Inv room (cs'.map pl) fr:=by
 refine ⟨h.r1,h.r2,by have:=h.len;rw [List.length_map] at *;omega,h.nod,fun s hs=>?_,?_,fun i=>?_⟩
 ·obtain ⟨a,b,c⟩:=h.free s hs;rw [Zan] at *;rw [List.length_map] at *;exact ⟨a,by omega,by rw [hc];exact c⟩
 ·have:=h.sum;rw [List.length_map] at *;unfold noc at hn;omega
 ·have:=h.most i;rw [Zan] at *;rw [hc];exact this
theorem Zrv (h:Inv room (cs.map pl) fr) (k:AbOf cs cs'):Inv room (cs'.map pl) fr:=Yji h k.len k.cc k.noc
theorem Zya (h:Inv room (cs.map pl) fr) (hf: ¬Full room cs fr) (x:Ce):Inv room ((tkC cs fr (1,x)).map pl) fr.dropLast:=by
 rcases Zff cs fr with ⟨s,fr0,rfl,e1,e2⟩ | ⟨rfl,e1,e2⟩
 ·rw [e2,← map_set,List.dropLast_concat];exact h.takeFree (cz x)
 ·rw [e2,← Zrs];refine h.takeNew ?_ (cz x);rw [List.length_map];apply Nat.lt_of_not_le;exact fun q=>hf ⟨rfl,q⟩
theorem Ycj (h:Inv room (cs.map pl) fr) {i:Nat} (hc:0<cc cs i) (hm:cc cs i<1073741824):Inv room ((moreC cs i).map pl) fr:=by
 unfold moreC;rw [← map_set];exact h.held (by rw [Zan];exact hc) (by omega) (by omega) _
theorem Ygp (r:Run cs fr st cs' fr' n) (h:Inv room (cs.map pl) fr):Inv room (cs'.map pl) fr':=by
 induction r with
 | done cs fr=>exact h
 | @keep cs fr i st cs' fr' n hc _ ih=>
  refine ih ?_;unfold lessC;rw [← map_set];have hm:=h.most i;rw [Zan] at hm;exact h.held (by rw [Zan];omega) (by omega) (by omega) _
 | @free cs fr i st cs' fr' n hc _ ih=>
  refine ih ?_;unfold freeC;refine Zrv (Zrv ?_ (Zgr _ _)) (Zgr _ _);rw [← map_set];exact h.drop (by rw [Zan];omega) _
theorem Zjk (h:Inv room (cs.map pl) fr) (hf: ¬Full room cs fr) (hI:InnR cs fr d l r cs'):Inv room (cs'.map pl) fr.dropLast:=by
 obtain ⟨KF,_,rfl⟩:=hI;exact Zrv (Zrv (Zya h hf _) (Zcp _ _)) (Zcp _ _)
theorem Inv.lenC (h:Inv room (cs.map pl) fr):cs.length≤room:=by have:=h.len;rwa [List.length_map] at this
theorem Inv.mostC (h:Inv room (cs.map pl) fr) (i:Nat):cc cs i≤1073741824:=by have:=h.most i;rwa [Zan] at this
theorem Inv.sumC (h:Inv room (cs.map pl) fr):fr.length+noc cs≤65536:=by
 have h1:=h.sum;have h2:=h.len;have h3:=h.r2;unfold noc;omega
def Hr (w0:World) (S:List Nat) (w:World) (q room:Nat) (cs:Lz) (fr:List Nat):Prop:=(∃ss,RT7 w0 q S room ss fr w∧Rel7 cs [] [] ss)∧Wf cs []∧Inv room (cs.map pl) fr
theorem Yjs (R:Rel7 cs [] [] ss):Full room ss fr↔Full room cs fr:=by
 unfold Full;rw [R.len]
section
variable {w0 w:World} {S:List Nat} {q room:Nat} {cs:Lz} {fr:List Nat}
theorem Hr.here (s:Rs w q vp vf room ss fr) (R:Rel7 cs [] [] ss) (W:Wf cs []) (I:Inv room (cs.map pl) fr):Hr w (rsB q vp vf ss) w q room cs fr:=⟨⟨ss,⟨vp,vf,s,Mod.refl _ _,New.refl _ _⟩,R⟩,W,I⟩
theorem Hr.mod (h:Hr w0 S w q room cs fr):Mod S w0 w:=by obtain ⟨⟨_,⟨_,_,_,m,_⟩,_⟩,_⟩:=h;exact m
theorem Hr.kq {P:World→Prop} (h:Hr w0 S w q room cs fr) (k:Kq S w0 P):P w:=k w h.mod
theorem Hr.wf (h:Hr w0 S w q room cs fr):Wf cs []:=h.2.1
theorem Hr.inv (h:Hr w0 S w q room cs fr):Inv room (cs.map pl) fr:=h.2.2
theorem Hr.frok (h:Hr w0 S w q room cs fr):FrOk cs fr:=Zcw h.inv
theorem Hr.grow (h:Hr w0 S w q room cs fr) (hb:Kb w w'):Hr w0 S w' q room cs fr:=by
 obtain ⟨⟨ss,⟨vp,vf,s,m,n⟩,R⟩,W⟩:=h;exact ⟨⟨ss,⟨vp,vf,s.grow hb,m.trans' (Mod.of_below hb S),n⟩,R⟩,W⟩
theorem Hr.from (h:Hr w0 S w q room cs fr):∃S',Hr w S' w q room cs fr∧New S w0 S'∧(∀P:World→Prop,Kq S w0 P→Kq S' w P)∧(∀k∈S',k<w.heap.size)∧∀w' cs' fr',Hr w S' w' q room cs' fr'→Hr w0 S w' q room cs' fr':=by
 obtain ⟨⟨ss,⟨vp,vf,s,m,n⟩,R⟩,W,I⟩:=h;refine ⟨rsB q vp vf ss,Hr.here s R W I,n,fun P k=>k.turn m n,s.lts,fun w' cs' fr' k=>⟨?_,k.2⟩⟩;obtain ⟨⟨ss',⟨vp',vf',s',m',n'⟩,R'⟩,_⟩:=k;exact ⟨ss',⟨vp',vf',s',m.trans n m',n.trans m.size n'⟩,R'⟩
theorem Hr.rebase (h:Hr w S w q room cs fr) (hb:Kb w w1):Hr w1 S w1 q room cs fr:=by
 obtain ⟨⟨ss,⟨vp,vf,s,m,n⟩,R⟩,W⟩:=h;refine ⟨⟨ss,⟨vp,vf,s.grow hb,Mod.refl _ _,fun k hk=>?_⟩,R⟩,W⟩;rcases n k hk with q | q
 ·exact .inl q
 ·have:=s.lts k hk;omega
theorem Hr.back (hb:Kb w w1) (h:Hr w1 S w2 q room cs fr):Hr w S w2 q room cs fr:=by
 obtain ⟨⟨ss,⟨vp,vf,s,m,n⟩,R⟩,W⟩:=h;refine ⟨⟨ss,⟨vp,vf,s,(Mod.of_below hb S).trans' m,fun k hk=>?_⟩,R⟩,W⟩;rcases n k hk with q | q
 ·exact .inl q
 ·exact .inr (Nat.le_trans hb.size q)
theorem Hr.tell {f:FuncId} {args:Array Value} {E:Ending} (h:Hr w0 S w q room cs fr) (hc:∀vp vf ss,Rs w q vp vf room ss fr→Rel7 cs [] [] ss→Kc f args w fun e w'=>e=E∧Kb w w'):Kc f args w fun e w'=>e=E∧Kb w w':=by
 obtain ⟨⟨_,⟨_,_,s,_,_⟩,R⟩,_,_⟩:=h;exact hc _ _ _ s R
theorem Hr.same {f:FuncId} {args:Array Value} {E:Ending} (h:Hr w0 S w q room cs fr) (hc:∀vp vf ss,Rs w q vp vf room ss fr→Rel7 cs [] [] ss→Kc f args w fun e w'=>e=E∧Kb w w'):Kc f args w fun e w'=>e=E∧Hr w0 S w' q room cs fr:=(h.tell hc).mono fun _ _ ⟨e1,b⟩=>⟨e1,h.grow b⟩
theorem Hr.turn {f:FuncId} {args:Array Value} {E:Ending} (h:Hr w0 S w q room cs fr) (W':Wf cs' []) (I':Inv room (cs'.map pl) fr') (hc:∀vp vf ss,Rs w q vp vf room ss fr→Rel7 cs [] [] ss→Kc f args w fun e w'=>e=E∧∃ss',Rel7 cs' [] [] ss'∧RT7 w q (rsB q vp vf ss) room ss' fr' w'):Kc f args w fun e w'=>e=E∧Hr w0 S w' q room cs' fr':=by
 obtain ⟨⟨ss,⟨vp,vf,s,m,n⟩,R⟩,W,I⟩:=h;refine (hc _ _ _ s R).mono ?_;rintro e w' ⟨e1,ss',R',vp',vf',s',m',n'⟩;exact ⟨e1,⟨ss',⟨vp',vf',s',m.trans n m',n.trans m.size n'⟩,R'⟩,W',I'⟩
theorem Zmf (h:Hr w0 S w q room cs fr) (i:Nat) (hc:0<cc cs i) (hm:cc cs i<1073741824):Kc 114 #[.pointer (some ⟨q,0,none⟩),.int .i64 ((i:Int)+1)] w fun e w'=>e=.returned (.int .i64 0)∧Hr w0 S w' q room (moreC cs i) fr:=by
 have W:=h.wf;refine h.turn (W.more i hc) (Ycj h.inv hc hm) fun _ _ _ s R=>?_
 have hs:=(Zbv R W ((i:Int)+1)).sum;rw [Zev,show cot cs ((i:Int)+1)=cc cs i by rw [cot,if_pos (by omega),show ((i:Int)+1-1).toNat=i by omega]] at hs;exact (Zwv s i ((R.inn W i).2 hc) (by omega)).mono fun e w3 ⟨e1,t⟩=>⟨e1,_,R.more W hc,t⟩
theorem Zqf (h:Hr w0 S w q room cs fr) (x:Int) (hc:cot cs x=0):Kc 114 #[.pointer (some ⟨q,0,none⟩),.int .i64 x] w fun e w'=>e=.returned (.int .i64 7)∧Hr w0 S w' q room cs fr:=by
 have W:=h.wf;refine h.same fun _ _ _ s R=>(Ztq s x ?_).mono fun e w'' ⟨e1,e2⟩=>⟨e1,by rw [e2];exact Below.refl _ _⟩
 rw [(Zbv R W x).kind,W.cat0 hc];rfl
theorem Zob (h:Hr w0 S w q room cs fr) (i:Nat) (hc:cc cs i=1073741824):Kc 114 #[.pointer (some ⟨q,0,none⟩),.int .i64 ((i:Int)+1)] w fun e w'=>e=.returned (.int .i64 4)∧Hr w0 S w' q room cs fr:=by
 have W:=h.wf;refine h.same fun _ _ _ s R=>?_
 have hs:=(Zbv R W ((i:Int)+1)).sum;rw [Zev,show cot cs ((i:Int)+1)=cc cs i by rw [cot,if_pos (by omega),show ((i:Int)+1-1).toNat=i by omega]] at hs;exact Zpk s i ((R.inn W i).2 (by omega)) (by omega)
theorem Zqg (h:Hr w0 S w q room cs fr) (i:Nat) (ho:0<own cs [] i) {cs':Lz} {fr':List Nat} {n:Nat} (r:Run cs fr [i+1] cs' fr' n):Kc 58 #[.pointer (some ⟨q,0,none⟩),.int .i64 ((i:Int)+1)] w fun e w'=>e=.returned (.tuple #[.int .i64 (n:Int),.int .i64 0])∧Hr w0 S w' q room cs' fr':=by
 have W:=h.wf;exact h.turn (r.step (W.less i ho)).wf (Ygp r h.inv) fun _ _ _ s R=>Zxc s R W i ho h.inv.mostC h.inv.sumC r
theorem Zoc (h:Hr w0 S w q room cs fr) (x:Int) (hm:cot cs x≤(cat cs x).ab):Kc 58 #[.pointer (some ⟨q,0,none⟩),.int .i64 x] w fun e w'=>e=.returned (.tuple #[.int .i64 0,.int .i64 7])∧Hr w0 S w' q room cs fr:=
 h.same fun _ _ _ s R=>Zps s x (by rw [(Zbv R h.wf x).own];omega)
theorem Ygw (h:Hr w0 S w q room cs fr) (h5:room≤5000) (K:Lq) (v v':Value) (bs:Lq) (hr:Reads w v bs) (hK:Key K) (hl:bs.length≤1024) (hf: ¬Full room cs fr) (ok:CeOk (lfC (lfD K (vaD bs)) K v' bs)):Kc 127 #[.pointer (some ⟨q,0,none⟩),.agg (B K),v] w fun e w'=>e=.returned (.tuple #[.int .i64 (tkH cs fr:Int),.int .i64 0])∧Hr w0 S w' q room (tkC cs fr (1,lfC (lfD K (vaD bs)) K v' bs)) fr.dropLast:=by
 have W:=h.wf;have I:=h.inv;have hF:=h.frok;have hbs:Bytes bs:=by obtain ⟨_,_,_,_,_,hb,_⟩:=hr;exact hb
 have tk:=(Zgc hF (1,lfC (lfD K (vaD bs)) K v' bs)).2;refine h.turn (W.leaf tk (Zqa K v' bs hbs hl) ok rfl) (Zya I hf _) fun _ _ _ s R=>?_
 refine (Zwu s (hF.slots R.len) K v bs hr hK hl (fun f=>hf ((Yjs R).1 f)) (by rw [R.len];have:=I.lenC;omega)).mono ?_;rintro e w3 ⟨a,c,rfl,t⟩;exact ⟨by rw [Zgz fr R.len],_,R.leaf hF _ K v' _ bs,t⟩
theorem Yjo (h5:room≤5000) (I:Inv room (cs.map pl) fr) (W:Wf cs []) {d l r:Nat} (hd:d<256) (hml:mayP cs (l:Int)) (hmr:mayP cs (r:Int)) {u:Bool} (hu:u=true↔Und (sdC cs l).key (sdC cs r).key (d:Int)) {vp vf:Value} {ss:List Sp} (s:Rs w q vp vf room ss fr) (R:Rel7 cs [] [] ss):Fit7 w q d l r (fitP d (sdC cs l) (sdC cs r) u):=fun w'' hb=>by
 have:=Yix (s.grow hb) R W (by have:=I.lenC;omega) hd hml hmr (u:=u) (by rw [Zy,Zy];exact hu);rwa [Zy,Zy] at this
theorem Zyd (W:Wf cs []) (hF:FrOk cs fr) {cs':Lz} {d l r:Nat} (hd:d<256) (hml:mayP cs (l:Int)) (hmr:mayP cs (r:Int)) {u:Bool} (hu:u=true↔Und (sdC cs l).key (sdC cs r).key (d:Int)) (hf:fitP d (sdC cs l) (sdC cs r) u=true) (hI:InnR cs fr d l r cs'):Wf cs' []:=by
 obtain ⟨K,hK,rfl⟩:=hI;have tk:=(Zgc hF (1,inC (inD (sdD cs l) (sdD cs r)) K ((sdC cs l).sz+(sdC cs r).sz) d l r)).2;exact W.inner tk (Zye W hd hml hmr hu hf hK) ⟨Zp _,Zam _,hK.1,none,0,rfl⟩ rfl hml.own hmr.own
theorem Ycn (h:Hr w0 S w q room cs fr) (h5:room≤5000) (d l r:Nat) (hd:d<256) (hml:mayP cs (l:Int)) (hmr:mayP cs (r:Int)) (u:Bool) (hu:u=true↔Und (sdC cs l).key (sdC cs r).key (d:Int)) (hf:fitP d (sdC cs l) (sdC cs r) u=true) (hfu: ¬Full room cs fr) {cs':Lz} (hI:InnR cs fr d l r cs'):Kc 129 #[.pointer (some ⟨q,0,none⟩),.int .i64 (d:Int),.int .i64 (l:Int),.int .i64 (r:Int)] w fun e w'=>e=.returned (.tuple #[.int .i64 (tkH cs fr:Int),.int .i64 0])∧Hr w0 S w' q room cs' fr.dropLast:=by
 have W:=h.wf;have I:=h.inv;have hF:=h.frok;have W':=Zyd W hF hd hml hmr hu hf hI;have hne:l≠0→l≠r:=by
  obtain ⟨KF,hKF,_⟩:=hI;exact fun h0=>Zlq (Zye W hd hml hmr hu hf hKF) h0
 refine h.turn W' (Zjk I hfu hI) fun _ _ _ s R=>?_
 have fit:=Yjo h5 I W hd hml hmr hu s R;rw [hf] at fit;refine (Ztp s (hF.slots R.len) R W d l r hd hml hmr fit (fun f=>hfu ((Yjs R).1 f)) (by rw [R.len];have:=I.lenC;omega) (Yjb R W I.mostC hml) (Ylb R W I.mostC hml hmr hne)).mono ?_;rintro e w3 ⟨rfl,t⟩;exact ⟨by rw [Zgz fr R.len],_,R.inner W W' hF hml hmr hI,t⟩
end
end Go.Proofs.YtgfdgjkbcdmboaaGreatDoor
namespace Go.Proofs.YtgfdgjkbcdmboaaGreatDoor
variable {S fr fr' pend st:List Nat}
variable {T:Tre}
variable {cs cs':Lz}
variable {d g gs h k l m n r room:Nat}
variable {mk:Bool}
variable {ss:List Sp}
variable {v vf vp:Value}
variable {w w' w0 w1 w2:World}
set_option maxHeartbeats 4000000
set_option maxRecDepth 20000
open Go.RowKit
theorem Zgi (D:Lq) (h:D.length=32):(Tryz.prog.info? 34).map (·.size)=some (B D).toList.length:=by rw [Zas,List.length_map,h];exact Zi
theorem Yct {ct:Int→Nat} {ca:Int→Ce} (V:Vw w v true ct ca) (h:Int) (K:Lq) (hK:Key K) (hk:(ca h).kind=2) (hd:(ca h).dp<256):Kc 141 #[v,.int .i64 h,.agg (B K)] w fun e w'=>e=.returned (.tuple #[.int .i64 ((if kb K (ca h).dp=1 then (ca h).r else (ca h).l:Nat):Int),.int .i64 ((if kb K (ca h).dp=1 then (ca h).l else (ca h).r:Nat):Int)])∧Kb w w':=by
 have HSD:Hid (Kr w 96 #[v,.int .i64 h] (.tuple #[.int .i64 ((ca h).l:Int),.int .i64 ((ca h).r:Int)])):=fun w' hb=>Zgg (V.grow hb) h
 have HDP:Hid (Kr w 86 #[v,.int .i64 h] (.int .i64 ((ca h).dp:Int))):=fun w' hb=>by
  have:=Zgt (V.grow hb) h;rwa [show vDp true (ca h)=((ca h).dp:Int) by simp [vDp,hk]] at this
 have HBT:Hid (∀w',Kc 109 #[.agg (B K),.int .i64 ((ca h).dp:Int)] w' fun e w''=>e=.returned (.int .i64 (kb K (ca h).dp))∧Below w'.heap.size w' w''):=fun w'=>by
  have:=Zmn K ((ca h).dp:Int) w' hK;rwa [Zdp K _ hd] at this
 have HPL:=Za (Zgi K hK.1);clear V hk hd hK;generalize (ca h).l=l at HSD ⊢;generalize (ca h).r=r at HSD ⊢;generalize (ca h).dp=d at HDP HBT ⊢;have hq:=Zdq K d;generalize kb K d=q at HBT hq ⊢;generalize hdd:(d:Int)=dd at HDP HBT;clear hdd;rcases hq with rfl | rfl
 ·rw [if_neg (by omega),if_neg (by omega)];go_enter Tryz.func141,Tryz.ntmps141
  go_wp2_with (first
   |((with_reducible refine Zl 5 ?_);refine Zc _ rfl _ _ rfl _ rfl ?_;intro w1 b5 hg5 hl5 B5 q5;have HB5:=Za B5;have HQ5:=Za q5;clear hg5 hl5 B5 q5)
   |(go_at_call 96;refine (HSD.out _ HQ5.out).mono ?_;rintro e w2 ⟨rfl,b2⟩;have HB52:=Za (HB5.out.grow b2);have HQ2:=Za (Zb HQ5.out b2);clear b2))
  refine wp_region_held_drew (S:=fun w'=>Kb w2 w') (by kernel_rfl) ((below_drewN (Below.refl _ _) 1)) (fun hHeld=>?_);refine tkg 0 (.agg (B K)) rfl (yieldsIf_load_mid rfl 34 (.tmp 5) rfl b5 0 rfl (B K).toList _ (fun w hS=>(HB52.out.grow hS).range) Tryz.underlying34 rfl HPL.out) hHeld ?_;simp only [zq];refine tkp 1 v hHeld ?_;simp only [zq];refine tkp 2 (.int .i64 h) hHeld ?_;simp only [zq];refine wpAnyH_ready (rs:=[3]) (by kernel_rfl) (by simp) ?_;refine AllReadyH.cons rfl (fun KQ hK=>?_) AllReadyH.nil;go_simp;refine (HDP.out _ (Zb HQ2.out hHeld)).mono ?_;rintro e z1 ⟨rfl,a1⟩;refine hK.out _ _ (Zb hHeld a1) (fun hHeld=>?_);clear hK KQ;refine wpAnyH_ready (rs:=[4]) (by kernel_rfl) (by simp) ?_;refine AllReadyH.cons rfl (fun KQ hK=>?_) AllReadyH.nil;go_simp;refine (HBT.out _).mono ?_;rintro e z2 ⟨rfl,a2⟩;refine hK.out _ _ (Zb hHeld a2) (fun hHeld=>?_);clear hK KQ;refine tkp 5 (.bool false) hHeld ?_;simp only [zq];refine wpAnyH_done (by kernel_rfl) ?_ _;go_wp2
  go_ret2;exact ⟨rfl,Zb HQ2.out hHeld⟩
 ·rw [if_pos rfl,if_pos rfl];go_enter Tryz.func141,Tryz.ntmps141
  go_wp2_with (first
   |((with_reducible refine Zl 5 ?_);refine Zc _ rfl _ _ rfl _ rfl ?_;intro w1 b5 hg5 hl5 B5 q5;have HB5:=Za B5;have HQ5:=Za q5;clear hg5 hl5 B5 q5)
   |(go_at_call 96;refine (HSD.out _ HQ5.out).mono ?_;rintro e w2 ⟨rfl,b2⟩;have HB52:=Za (HB5.out.grow b2);have HQ2:=Za (Zb HQ5.out b2);clear b2))
  refine wp_region_held_drew (S:=fun w'=>Kb w2 w') (by kernel_rfl) ((below_drewN (Below.refl _ _) 1)) (fun hHeld=>?_);refine tkg 0 (.agg (B K)) rfl (yieldsIf_load_mid rfl 34 (.tmp 5) rfl b5 0 rfl (B K).toList _ (fun w hS=>(HB52.out.grow hS).range) Tryz.underlying34 rfl HPL.out) hHeld ?_;simp only [zq];refine tkp 1 v hHeld ?_;simp only [zq];refine tkp 2 (.int .i64 h) hHeld ?_;simp only [zq];refine wpAnyH_ready (rs:=[3]) (by kernel_rfl) (by simp) ?_;refine AllReadyH.cons rfl (fun KQ hK=>?_) AllReadyH.nil;go_simp;refine (HDP.out _ (Zb HQ2.out hHeld)).mono ?_;rintro e z1 ⟨rfl,a1⟩;refine hK.out _ _ (Zb hHeld a1) (fun hHeld=>?_);clear hK KQ;refine wpAnyH_ready (rs:=[4]) (by kernel_rfl) (by simp) ?_;refine AllReadyH.cons rfl (fun KQ hK=>?_) AllReadyH.nil;go_simp;refine (HBT.out _).mono ?_;rintro e z2 ⟨rfl,a2⟩;refine hK.out _ _ (Zb hHeld a2) (fun hHeld=>?_);clear hK KQ;refine tkp 5 (.bool true) hHeld ?_;simp only [zq];refine wpAnyH_done (by kernel_rfl) ?_ _;go_wp2
  go_ret2;exact ⟨rfl,Zb HQ2.out hHeld⟩
def HdPost (hs:List Nat) (fin:Int) (w:World) (e:Ending) (w':World):Prop:=
 ∃a c,e=.returned (.tuple #[.slice a hs.length c,.int .i64 fin,.int .i64 0])∧w'.ownsRow w.heap.size 3 1 (.slice a hs.length c) hs.length (nats hs)∧Kb w w'
def sLen:Value→Nat
 | .slice _ n _=>n
 | _=>0
theorem Zeq (h1:1≤h):cat cs (h:Int)=ce cs (h-1):=by
 rw [Zy,sdC,if_neg (by omega)]
theorem Zfw (V:Vw w v true (cot cs) (cat cs)) (W:Wf cs pend) (h:Nat) (T:Tre) (hT:IsT cs h T) (K:Lq) (hK:Key K) (he:vRt true (cot cs h) (cat cs h) h=0):Kc 104 #[v,.int .i64 (h:Int),.agg (B K)] w (HdPost (T.hs K h) (T.fin K h) w):=by
 have HR:Hid (Kr w 92 #[v,.int .i64 (h:Int)] (.int .i64 0)):=fun w' hb=>by
  have:=Zfi (V.grow hb) (h:Int);rwa [he] at this
 have HPS:Hid ((Tryz.prog.info? 34).map (·.size)=some (B K).size):=by show _=_;rw [Zj,hK.1];exact Zi
 have HV:=Za V;have HW:=Za W;have HK:=Za hK;have HT:=Za hT;have HN:Hid ((T.hs K h).length≤256):=by
  show _≤_;rw [Tre.hs_oth]
  by_cases k:(sdC cs h).kind=2
  ·have:=(Zcu W K T h (sdC cs h).dp hT (fun _=>rfl) (by
    match T,hT with
    | .emp,e=>exact absurd k (by rw [show h=0 from e];show ¬zc.kind=2;decide)
    | .lf _ _,⟨h1,_,h3,_⟩=>rw [sdC,if_neg (by omega)] at k;omega
    | .nd d hl hr L R,hT=>
     have:=(Zlz W hT).dp;obtain ⟨h1,_,_,h4,_⟩:=hT;rw [sdC,if_neg (by omega),h4];omega)).2.2
   omega
  ·have:=(Zcu W K T h 0 hT (fun q=>absurd q k) (by omega)).2.2;omega
 have HPost:Hid (∀a c w',w'.ownsRow w.heap.size 3 1 (.slice a (T.hs K h).length c) (T.hs K h).length (nats (T.hs K h))→Kb w w'→HdPost (T.hs K h) (T.fin K h) w (.returned (.tuple #[.slice a (T.hs K h).length c,.int .i64 (T.fin K h:Int),.int .i64 0])) w'):=fun a c w' h1 h2=>⟨a,c,rfl,h1,h2⟩
 obtain ⟨hh,hhe⟩:∃y:Int,y=(h:Int):=⟨_,rfl⟩;rw [← hhe] at HR ⊢;have HHE:=Za hhe;clear V W hK hT he hhe;generalize HE:HdPost (T.hs K h) (T.fin K h) w=P at HPost ⊢;go_enter Tryz.func104,Tryz.ntmps104
 go_wp2_with (first
  |((with_reducible refine Zl 5 ?_);refine Zc _ rfl _ _ rfl _ rfl ?_;intro w1 b5 hg5 hl5 B5 q5;have HB5:=Za B5;have HQ5:=Za q5;have HG5:=Za hg5;clear hg5 hl5 B5 q5)
  |(go_at_call 92;refine (HR.out _ HQ5.out).mono ?_;rintro e w2 ⟨rfl,b2⟩;have HB52:=Za (HB5.out.grow b2);have HQ2:=Za (Zb HQ5.out b2);clear b2))
 clear HR HB5 HQ5 HG5
 go_loopw [6,7] (fun wv ev wr=>∃(pre:List Nat) (x:Nat) (U:Tre) (a:Option Addr) (n c:Nat),wv=.slice a n c∧ev=.int .i64 (x:Int)∧Hid (n=pre.length)∧Hid (wr.ownsRow w2.heap.size 3 1 (.slice a n c) n (nats pre))∧Hid (IsT cs x U∧pre++U.hs K x=T.hs K h∧U.fin K x=T.fin K h)∧Hid (Kb w2 wr)) (fun wv _ _=>300-sLen wv)
 case atStart=>exact ⟨[],h,T,none,0,0,rfl,by rw [HHE.out],rfl,World.ownsRow_nil _ _ _ _,⟨HT.out,rfl,rfl⟩,Below.refl _ _⟩
 case round=>
  clear HT HHE;obtain ⟨pre,x,U,a,n,c,rfl,rfl,hn,hO,hU,hB⟩:=hrel;have HVR:=Za (HV.out.grow (Zb HQ2.out hB.out));have hlen:n+(U.hs K x).length=(T.hs K h).length:=by
   have:=congrArg List.length hU.out.2.1;rw [List.length_append] at this;rw [hn.out];exact this
  have h256:=HN.out;have HKD:Hid (Kc 85 #[v,.int .i64 (x:Int)] wr fun e w'=>e=.returned (.int .u8 (cat cs (x:Int)).kind)∧Kb wr w'):=Zfl HVR.out (x:Int);have HFin:Hid (U.hs K x=[]→U.fin K x=x→∀w',Kb wr w'→P (.returned (.tuple #[.slice a n c,.int .i64 (x:Int),.int .i64 0])) w'):=fun e1 e2 w' hb=>by
   have q1:=hU.out.2.1;rw [e1,List.append_nil] at q1;have q2:=hU.out.2.2;rw [e2] at q2;have q3:=hn.out;have hO':=Zn (Zae hO.out HQ2.out.size) hb;rw [q3,q1] at hO';rw [q3,q1,q2];exact HPost.out a c w' hO' (Zb (Zb HQ2.out hB.out) hb)
  cases U with
  | emp=>
   have hx:x=0:=hU.out.1;have HKZ:Hid ((cat cs (x:Int)).kind=0):=by rw [hx];rfl
   rw [HKZ.out] at HKD;have HF:=Za (HFin.out rfl rfl);generalize (x:Int)=y at HKD HF ⊢;clear HFin HKZ hx hU hlen h256 HVR
   go_wp2_with (first
    |(go_at_call 85;refine HKD.out.mono ?_;rintro e w3 ⟨rfl,b3⟩;have HB3:=Za b3;clear b3))
   go_ret3;exact HF.out _ HB3.out
  | lf k b=>
   obtain ⟨h1,h2,h3,h4,h5⟩:=hU.out.1;have HKZ:Hid ((cat cs (x:Int)).kind=1):=by rw [Zeq h1];exact h3
   rw [HKZ.out] at HKD;have HF:=Za (HFin.out rfl rfl);generalize (x:Int)=y at HKD HF ⊢;clear HFin HKZ hU hlen h256 HVR h1 h2 h3 h4 h5
   go_wp2_with (first
    |(go_at_call 85;refine HKD.out.mono ?_;rintro e w3 ⟨rfl,b3⟩;have HB3:=Za b3;clear b3))
   go_ret3;exact HF.out _ HB3.out
  | nd d hl hr L R=>
   have hno:=Zlz HW.out hU.out.1;obtain ⟨h1,h2,h3,h4,h5,h6,h7,h8⟩:=hU.out.1;have hca:=Zeq (cs:=cs) h1;rw [show (cat cs (x:Int)).kind=2 by rw [hca];exact h3] at HKD;have HFK:Hid (Kr w 141 #[v,.int .i64 (x:Int),.agg (B K)] (.tuple #[.int .i64 ((if kb K d=1 then hr else hl:Nat):Int),.int .i64 ((if kb K d=1 then hl else hr:Nat):Int)])):=fun w' hb=>by
    have:=Yct (HV.out.grow hb) (x:Int) K HK.out (by rw [hca];exact h3) (by rw [hca,h4];exact hno.dp);rw [hca,h4,h5,h6] at this;exact this
   have hcut:(Tre.nd d hl hr L R).hs K x=x::(if kb K d=1 then R.hs K hr else L.hs K hl):=rfl;have hfi:(Tre.nd d hl hr L R).fin K x=(if kb K d=1 then R.fin K hr else L.fin K hl):=rfl;have HNX:Hid (∃U',IsT cs (if kb K d=1 then hr else hl) U'∧(pre++[x])++U'.hs K (if kb K d=1 then hr else hl)=T.hs K h∧U'.fin K (if kb K d=1 then hr else hl)=T.fin K h):=by
    have q1:=hU.out.2.1;have q2:=hU.out.2.2;rw [hcut] at q1;rw [hfi] at q2;show ∃_,_
    by_cases q:kb K d=1
    ·rw [if_pos q] at q1 q2 ⊢;exact ⟨R,h8,by rw [List.append_assoc];exact q1,q2⟩
    ·rw [if_neg q] at q1 q2 ⊢;exact ⟨L,h7,by rw [List.append_assoc];exact q1,q2⟩
   have hn256:n+1≤256:=by
    rw [hcut,List.length_cons] at hlen;omega
   generalize (if kb K d=1 then hr else hl:Nat)=m1 at HFK HNX;generalize (if kb K d=1 then hl else hr:Nat)=m2 at HFK;obtain ⟨y,hy⟩:∃y:Int,y=(x:Int):=⟨_,rfl⟩;rw [← hy] at HKD HFK;rw [← hy];have HY:=Za hy;have H256:=Za hn256;clear HFin hU hlen h256 HVR h1 h2 h3 h4 h5 h6 h7 h8 hca hcut hfi hno hy hn256
   go_wp2_with (first
    |(go_at_call 85;refine HKD.out.mono ?_;rintro e w3 ⟨rfl,b3⟩;have HB3:=Za b3;have HO3:=Za ((Zn (Zn hO.out b3) (Zh w3 (.cells #[.int .i64 y] 3))));clear b3)
    |(at_builtin;refine Zax _ rfl _ _ _ rfl w2.heap.size 3 1 8 Tryz.underlying30 Zak (by omega) _ n (nats pre) rfl HO3.out w3.heap.size [Value.int .i64 y] rfl (Blk.new _ _ _) rfl (by intro u hu;simp at hu;subst hu;rfl) (by have:=H256.out;simp only [maxLen];omega) (by have:=H256.out;omega) (Nat.le_trans hB.out.size (Nat.le_trans HB3.out.size (by simp))) ?_;intro a4 c4 w4 o4 g4;have HO4:=Za o4;have HB4:=Za (Zal (Zb (Zb hB.out HB3.out) (Zh w3 (.cells #[.int .i64 y] 3))) HO3.out (Nat.le_refl _) g4);clear o4 g4)
    |((with_reducible refine Zk 30 5 ?_);refine Zd _ rfl _ _ rfl b5 _ rfl (HB52.out.grow HB4.out) _ _ Tryz.underlying34 HPS.out ?_)
    |(go_at_call 141;refine (HFK.out _ (Zb HQ2.out HB4.out)).mono ?_;rintro e w5 ⟨rfl,b5'⟩;have HB5:=Za b5';clear b5'))
   obtain ⟨U',hU1,hU2,hU3⟩:=HNX.out;have ho5:=Zn HO4.out HB5.out;rw [HY.out,← Zau] at ho5;exact ⟨⟨pre++[x],m1,U',a4,n+1,c4,rfl,rfl,by rw [List.length_append,List.length_singleton,← hn.out];exact rfl,ho5,⟨hU1,hU2,hU3⟩,Zb HB4.out HB5.out⟩,by have:=H256.out;simp only [sLen];omega⟩
end Go.Proofs.YtgfdgjkbcdmboaaGreatDoor
namespace Go.Proofs.YtgfdgjkbcdmboaaGreatDoor
variable {S fr fr' pend st:List Nat}
variable {T:Tre}
variable {cs cs':Lz}
variable {d g gs h k l m n r room:Nat}
variable {mk:Bool}
variable {ss:List Sp}
variable {v vf vp:Value}
variable {w w' w0 w1 w2:World}
set_option maxHeartbeats 4000000
set_option maxRecDepth 20000
open Go.RowKit
structure HsAt1 (cs:Lz) (K:Lq) (hs:List Nat) (fin:Nat) (oth:List Nat) (d k x:Nat):Prop where
 at_:hs[k]?=some x
 pos:1≤x
 occ:0<cc cs (x-1)
 kind:(ce cs (x-1)).kind=2
 dp:(ce cs (x-1)).dp=d+k
 lt:d+k<256
 oth_:oth[k]?=some (if kb K (d+k)=1 then (ce cs (x-1)).l else (ce cs (x-1)).r)
 next:(hs++[fin])[k+1]?=some (if kb K (d+k)=1 then (ce cs (x-1)).r else (ce cs (x-1)).l)
theorem Zyf (K:Lq):∀(T:Tre) (h:Nat),(T.hs K h++[T.fin K h])[0]?=some h
 | .emp,_=>rfl
 | .lf _ _,_=>rfl
 | .nd _ _ _ _ _,_=>rfl
theorem Zqe {cs:Lz} {pend:List Nat} (w:Wf cs pend) (K:Lq):∀(T:Tre) (h d:Nat),IsT cs h T→((sdC cs h).kind=2→(sdC cs h).dp=d)→∀k,k<(T.hs K h).length→∃x,HsAt1 cs K (T.hs K h) (T.fin K h) (T.oth K) d k x
 | .emp,h,d,_,_,k,hk=>by simp [Tre.hs] at hk
 | .lf _ _,h,d,_,_,k,hk=>by simp [Tre.hs] at hk
 | .nd d hl hr L R,h,d',hT,hd,k,hk=>by
  have n:=Zlz w hT;obtain ⟨h1,h2,h3,h4,h5,h6,h7,h8⟩:=hT;have es:sdC cs h=ce cs (h-1):=if_neg (by omega);obtain rfl:d=d':=by
   rw [es] at hd;rw [← h4];exact hd h3
  have hdp:=n.dp;cases k with
  | zero=>
   refine ⟨h,rfl,h1,h2,h3,h4,by omega,?_,?_⟩
   ·rw [Nat.add_zero,h5,h6];simp only [Tre.oth];split <;> rfl
   ·simp only [Nat.add_zero,h5,h6,Tre.hs,Tre.fin]
    by_cases q:kb K d=1
    ·rw [if_pos q,if_pos q,if_pos q,List.cons_append,List.getElem?_cons_succ];exact Zyf K R hr
    ·rw [if_neg q,if_neg q,if_neg q,List.cons_append,List.getElem?_cons_succ];exact Zyf K L hl
  | succ k=>
   by_cases q:kb K d=1
   ·have e1:Tre.hs K h (.nd d hl hr L R)=h::R.hs K hr:=by simp [Tre.hs,q]
    have e2:Tre.fin K h (.nd d hl hr L R)=R.fin K hr:=by simp [Tre.fin,q]
    have e3:Tre.oth K (.nd d hl hr L R)=hl::R.oth K:=by simp [Tre.oth,q]
    rw [e1,List.length_cons] at hk;obtain ⟨x,b1,b2,b3,b4,b5,b6,b7,b8⟩:=Zqe w K R hr (d+1) h8 n.kr k (by omega);have e4:d+1+k=d+(k+1):=by omega
    rw [e4] at b5 b6 b7 b8;rw [e1,e2,e3];exact ⟨x,by rw [List.getElem?_cons_succ];exact b1,b2,b3,b4,b5,b6,by rw [List.getElem?_cons_succ];exact b7,by rw [List.cons_append,List.getElem?_cons_succ];exact b8⟩
   ·have e1:Tre.hs K h (.nd d hl hr L R)=h::L.hs K hl:=by simp [Tre.hs,q]
    have e2:Tre.fin K h (.nd d hl hr L R)=L.fin K hl:=by simp [Tre.fin,q]
    have e3:Tre.oth K (.nd d hl hr L R)=hr::L.oth K:=by simp [Tre.oth,q]
    rw [e1,List.length_cons] at hk;obtain ⟨x,b1,b2,b3,b4,b5,b6,b7,b8⟩:=Zqe w K L hl (d+1) h7 n.kl k (by omega);have e4:d+1+k=d+(k+1):=by omega
    rw [e4] at b5 b6 b7 b8;rw [e1,e2,e3];exact ⟨x,by rw [List.getElem?_cons_succ];exact b1,b2,b3,b4,b5,b6,by rw [List.getElem?_cons_succ];exact b7,by rw [List.cons_append,List.getElem?_cons_succ];exact b8⟩
theorem Zpi (hT:IsT cs h T) (he:vRt true (cot cs h) (cat cs h) h=0):(sdC cs h).kind=2→(sdC cs h).dp=0:=fun k=>by
 rw [← Zy] at k ⊢;have h0: ¬(h:Int)=0:=fun e=>by
  have:h=0:=by omega
  subst this;exact absurd k (by show ¬zc.kind=2;decide)
 have hc: ¬cot cs (h:Int)=0:=by
  match T,hT with
  | .emp,e=>exact absurd (show ((h:Nat):Int)=0 by rw [show h=0 from e];rfl) h0
  | .lf _ _,⟨h1,h2,_⟩=>rw [cot,if_pos (by omega),show ((h:Int)-1).toNat=h-1 by omega];omega
  | .nd _ _ _ _ _,⟨h1,h2,_⟩=>rw [cot,if_pos (by omega),show ((h:Int)-1).toNat=h-1 by omega];omega
 unfold vRt at he;rw [if_pos rfl,if_neg h0,if_neg hc] at he
 by_cases q:0<vDp true (cat cs (h:Int))
 ·rw [if_pos q] at he;omega
 ·unfold vDp at q;rw [if_pos rfl,if_pos k] at q;omega
def fnd (l:List Ent) (K:Lq):Lq×Bool:=match l with
 | [e]=>if e.1=K then (e.2,true) else ([],false)
 | _=>([],false)
def FdPost (r:Lq×Bool) (w:World) (e:Ending) (w':World):Prop:=
 ∃v' sp,e=.returned (.tuple #[v',.bool r.2,.int .i64 0])∧Own w.heap.size w' v' r.1 sp∧Kb w w'
theorem Zmi (V:Vw w v true (cot cs) (cat cs)) (W:Wf cs pend) (h:Nat) (T:Tre) (hT:IsT cs h T) (K:Lq) (hK:Key K) (he:vRt true (cot cs h) (cat cs h) h=0):Kc 212 #[v,.int .i64 (h:Int),.agg (B K)] w (FdPost (fnd (T.efin K) K) w):=by
 have HHD:Hid (∀w',Kb w w'→Kc 104 #[v,.int .i64 (h:Int),.agg (B K)] w' (HdPost (T.hs K h) (T.fin K h) w')):=fun w' hb=>Zfw (V.grow hb) W h T hT K hK he
 have HPL:=Za (Zgi K hK.1);have HPS:Hid ((Tryz.prog.info? 34).map (·.size)=some (B K).size):=by show _=_;rw [Zj,hK.1];exact Zi
 have hfin:=Zds K T h hT;have HV:=Za V;obtain ⟨hs,hhs⟩:∃l,l=T.hs K h:=⟨_,rfl⟩;rw [← hhs] at HHD;obtain ⟨x,hx⟩:∃x,x=T.fin K h:=⟨_,rfl⟩;rw [← hx] at HHD hfin;obtain ⟨hh,hhe⟩:∃y:Int,y=(h:Int):=⟨_,rfl⟩;rw [← hhe] at HHD;rw [← hhe];have HKL:=Za hK.1;clear V W hT he hhs hx hK;generalize HFE:(x:Int)=y at HHD;have HFY:=Za HFE;clear HFE;rcases hfin with ⟨hx0,hf⟩ | ⟨k,b,hf,h1,h2,h3,h4,h5⟩
 ·rw [hf];have HKD:Hid (Kr w 85 #[v,.int .i64 y] (.int .u8 0)):=fun w' hb=>by
   have:=Zfl (HV.out.grow hb) y;rwa [show (cat cs y).kind=0 by rw [← HFY.out,hx0];rfl] at this
  have HPost:Hid (∀w',Kb w w'→FdPost (fnd [] K) w (.returned (.tuple #[.slice none 0 0,.bool false,.int .i64 0])) w'):=fun w' hb=>⟨_,[],rfl,Own.nil _ _,hb⟩
  generalize FdPost (fnd [] K) w=P at HPost ⊢;clear hf HV hhe hx0 HFY;go_enter Tryz.func212,Tryz.ntmps212
  go_wp2_with (first
   |((with_reducible refine Zl 5 ?_);refine Zc _ rfl _ _ rfl _ rfl ?_;intro w1 b5 hg5 hl5 B5 q5;have HB5:=Za B5;have HQ5:=Za q5;clear hg5 hl5 B5 q5)
   |((with_reducible refine Zk 14 5 ?_);refine Zd _ rfl _ _ rfl b5 _ rfl HB5.out _ _ Tryz.underlying34 HPS.out ?_)
   |(go_at_call 104;refine (HHD.out _ HQ5.out).mono ?_;rintro e w2 ⟨a2,c2,rfl,o2,b2⟩;have HB52:=Za (HB5.out.grow b2);have HQ2:=Za (Zb HQ5.out b2);clear b2 o2))
  refine wp_region_held_drew (S:=fun w'=>Kb w2 w') (by kernel_rfl) ((below_drewN (Below.refl _ _) 1)) (fun hHeld=>?_);refine tkp 0 (.int .i64 0) hHeld ?_;simp only [zq];refine tkp 1 (.bool false) hHeld ?_;simp only [zq];refine tkp 2 (.bool false) hHeld ?_;simp only [zq];refine tkp 3 v hHeld ?_;simp only [zq];refine tkp 4 (.int .i64 y) hHeld ?_;simp only [zq];refine wpAnyH_ready (rs:=[5]) (by kernel_rfl) (by simp) ?_;refine AllReadyH.cons rfl (fun KQ hK=>?_) AllReadyH.nil;go_simp;refine (HKD.out _ (Zb HQ2.out hHeld)).mono ?_;rintro e z1 ⟨rfl,a1⟩;refine hK.out _ _ (Zb hHeld a1) (fun hHeld=>?_);clear hK KQ;refine tkp 6 (.bool true) hHeld ?_;simp only [zq];refine tkp 7 (.bool true) hHeld ?_;simp only [zq];refine tkp 8 (.bool true) hHeld ?_;simp only [zq];refine tks 9 hHeld ?_;simp only [zq];refine tks 10 hHeld ?_;simp only [zq];refine tks 11 hHeld ?_;simp only [zq];refine tks 12 hHeld ?_;simp only [zq];refine tks 13 hHeld ?_;simp only [zq];refine tkp 14 (.bool true) hHeld ?_;simp only [zq];refine wpAnyH_done (by kernel_rfl) ?_ _;go_wp2
  go_ret3;exact HPost.out _ (Zb HQ2.out hHeld)
 ·rw [hf];have hca:cat cs y=ce cs (x-1):=by rw [← HFY.out];exact Zeq h1
  have HKD:Hid (Kr w 85 #[v,.int .i64 y] (.int .u8 1)):=fun w' hb=>by
   have:=Zfl (HV.out.grow hb) y;rwa [show (cat cs y).kind=1 by rw [hca];exact h3] at this
  have HKY:Hid (Kr w 94 #[v,.int .i64 y] (.agg (B k))):=fun w' hb=>by
   have:=Zmd (HV.out.grow hb) y;rwa [show (cat cs y).key=k by rw [hca];exact h4] at this
  have HVA:Hid (∀w',Kb w w'→Kc 97 #[v,.int .i64 y] w' fun e w''=>∃v' sp,e=.returned v'∧Own w'.heap.size w'' v' b sp∧Below w'.heap.size w' w''):=fun w' hb=>by
   have:=Zkl (HV.out.grow hb) y;rwa [show (cat cs y).bs=b by rw [hca];exact h5] at this
  have hkl:k.length=32:=by have:=(HV.out.ok y).hk.1;rwa [hca,h4] at this
  have hE:=Zcs k K hkl HKL.out
  by_cases hq:k=K
  ·have HPost:Hid (∀w' v' sp,Own w.heap.size w' v' b sp→Kb w w'→FdPost (fnd [(k,b)] K) w (.returned (.tuple #[v',.bool true,.int .i64 0])) w'):=fun w' v' sp ho hb=>⟨v',sp,by simp [fnd,hq],by simpa [fnd,hq] using ho,hb⟩
   generalize FdPost (fnd [(k,b)] K) w=P at HPost ⊢;simp only [hq,decide_true] at hE;rw [hq] at HKY;clear hf HV hhe HFY hca h1 h2 h3 h4 h5 hkl hq;go_enter Tryz.func212,Tryz.ntmps212
   go_wp2_with (first
    |((with_reducible refine Zl 5 ?_);refine Zc _ rfl _ _ rfl _ rfl ?_;intro w1 b5 hg5 hl5 B5 q5;have HB5:=Za B5;have HQ5:=Za q5;clear hg5 hl5 B5 q5)
    |((with_reducible refine Zk 14 5 ?_);refine Zd _ rfl _ _ rfl b5 _ rfl HB5.out _ _ Tryz.underlying34 HPS.out ?_)
    |(go_at_call 104;refine (HHD.out _ HQ5.out).mono ?_;rintro e w2 ⟨a2,c2,rfl,o2,b2⟩;have HB52:=Za (HB5.out.grow b2);have HQ2:=Za (Zb HQ5.out b2);clear b2 o2))
   refine wp_region_held_drew (S:=fun w'=>Kb w2 w') (by kernel_rfl) ((below_drewN (Below.refl _ _) 1)) (fun hHeld=>?_);refine tkp 0 (.int .i64 0) hHeld ?_;simp only [zq];refine tkp 1 (.bool false) hHeld ?_;simp only [zq];refine tkp 2 (.bool false) hHeld ?_;simp only [zq];refine tkp 3 v hHeld ?_;simp only [zq];refine tkp 4 (.int .i64 y) hHeld ?_;simp only [zq];refine wpAnyH_ready (rs:=[5]) (by kernel_rfl) (by simp) ?_;refine AllReadyH.cons rfl (fun KQ hK=>?_) AllReadyH.nil;go_simp;refine (HKD.out _ (Zb HQ2.out hHeld)).mono ?_;rintro e z1 ⟨rfl,a1⟩;refine hK.out _ _ (Zb hHeld a1) (fun hHeld=>?_);clear hK KQ;refine tkp 6 (.bool false) hHeld ?_;simp only [zq];refine tkp 7 (.bool false) hHeld ?_;simp only [zq];refine tkp 8 (.bool false) hHeld ?_;simp only [zq];refine tkp 9 v hHeld ?_;simp only [zq];refine tkp 10 (.int .i64 y) hHeld ?_;simp only [zq];refine tkg 12 (.agg (B K)) rfl (yieldsIf_load_mid rfl 34 (.tmp 5) rfl b5 0 rfl (B K).toList _ (fun w hS=>(HB52.out.grow hS).range) Tryz.underlying34 rfl HPL.out) hHeld ?_;simp only [zq];refine wpAnyH_ready (rs:=[11]) (by kernel_rfl) (by simp) ?_;refine AllReadyH.cons rfl (fun KQ hK=>?_) AllReadyH.nil;go_simp;refine (HKY.out _ (Zb HQ2.out hHeld)).mono ?_;rintro e z2 ⟨rfl,a2⟩;refine hK.out _ _ (Zb hHeld a2) (fun hHeld=>?_);clear hK KQ;refine tkp 13 (.bool false) hHeld ?_;simp only [zq];refine tkp 14 (.bool false) hHeld ?_;simp only [zq];refine wpAnyH_done (by kernel_rfl) ?_ _;have HH:=Za hHeld;clear hHeld
   go_wp2_with (go_at_call 97;refine (HVA.out _ (Zb HQ2.out HH.out)).mono ?_;rintro e w7 ⟨v7,sp7,rfl,o7,b7⟩)
   go_ret3;exact HPost.out _ _ sp7 (o7.mono (Zb HQ2.out HH.out).size) (Zb (Zb HQ2.out HH.out) b7)
  ·have HPost:Hid (∀w',Kb w w'→FdPost (fnd [(k,b)] K) w (.returned (.tuple #[.slice none 0 0,.bool false,.int .i64 0])) w'):=fun w' hb=>⟨.slice none 0 0,[],by simp [fnd,hq],by simp only [fnd,hq,if_false];exact Own.nil _ _,hb⟩
   generalize FdPost (fnd [(k,b)] K) w=P at HPost ⊢;simp only [hq,decide_false] at hE;clear hf HV hhe HFY hca h1 h2 h3 h4 h5 hkl hq HVA;go_enter Tryz.func212,Tryz.ntmps212
   go_wp2_with (first
    |((with_reducible refine Zl 5 ?_);refine Zc _ rfl _ _ rfl _ rfl ?_;intro w1 b5 hg5 hl5 B5 q5;have HB5:=Za B5;have HQ5:=Za q5;clear hg5 hl5 B5 q5)
    |((with_reducible refine Zk 14 5 ?_);refine Zd _ rfl _ _ rfl b5 _ rfl HB5.out _ _ Tryz.underlying34 HPS.out ?_)
    |(go_at_call 104;refine (HHD.out _ HQ5.out).mono ?_;rintro e w2 ⟨a2,c2,rfl,o2,b2⟩;have HB52:=Za (HB5.out.grow b2);have HQ2:=Za (Zb HQ5.out b2);clear b2 o2))
   refine wp_region_held_drew (S:=fun w'=>Kb w2 w') (by kernel_rfl) ((below_drewN (Below.refl _ _) 1)) (fun hHeld=>?_);refine tkp 0 (.int .i64 0) hHeld ?_;simp only [zq];refine tkp 1 (.bool false) hHeld ?_;simp only [zq];refine tkp 2 (.bool false) hHeld ?_;simp only [zq];refine tkp 3 v hHeld ?_;simp only [zq];refine tkp 4 (.int .i64 y) hHeld ?_;simp only [zq];refine wpAnyH_ready (rs:=[5]) (by kernel_rfl) (by simp) ?_;refine AllReadyH.cons rfl (fun KQ hK=>?_) AllReadyH.nil;go_simp;refine (HKD.out _ (Zb HQ2.out hHeld)).mono ?_;rintro e z1 ⟨rfl,a1⟩;refine hK.out _ _ (Zb hHeld a1) (fun hHeld=>?_);clear hK KQ;refine tkp 6 (.bool false) hHeld ?_;simp only [zq];refine tkp 7 (.bool false) hHeld ?_;simp only [zq];refine tkp 8 (.bool false) hHeld ?_;simp only [zq];refine tkp 9 v hHeld ?_;simp only [zq];refine tkp 10 (.int .i64 y) hHeld ?_;simp only [zq];refine tkg 12 (.agg (B K)) rfl (yieldsIf_load_mid rfl 34 (.tmp 5) rfl b5 0 rfl (B K).toList _ (fun w hS=>(HB52.out.grow hS).range) Tryz.underlying34 rfl HPL.out) hHeld ?_;simp only [zq];refine wpAnyH_ready (rs:=[11]) (by kernel_rfl) (by simp) ?_;refine AllReadyH.cons rfl (fun KQ hK=>?_) AllReadyH.nil;go_simp;refine (HKY.out _ (Zb HQ2.out hHeld)).mono ?_;rintro e z2 ⟨rfl,a2⟩;refine hK.out _ _ (Zb hHeld a2) (fun hHeld=>?_);clear hK KQ;refine tkp 13 (.bool true) hHeld ?_;simp only [zq];refine tkp 14 (.bool true) hHeld ?_;simp only [zq];refine wpAnyH_done (by kernel_rfl) ?_ _;go_wp2
   go_ret3;exact HPost.out _ (Zb HQ2.out hHeld)
theorem Zba (h:(k:Int)<(m:Int)):m-(k+1)<m-k:=by omega
end Go.Proofs.YtgfdgjkbcdmboaaGreatDoor
namespace Go.Proofs.YtgfdgjkbcdmboaaGreatDoor
variable {S fr fr' pend st:List Nat}
variable {T:Tre}
variable {cs cs':Lz}
variable {d g gs h k l m n r room:Nat}
variable {mk:Bool}
variable {ss:List Sp}
variable {v vf vp:Value}
variable {w w' w0 w1 w2:World}
set_option maxHeartbeats 4000000
set_option maxRecDepth 20000
open Go.RowKit
theorem Ykn {ct:Int→Nat} {ca:Int→Ce} (V:Vw w v false ct ca) (j:Int):Kc 50 #[v,.int .i64 j] w fun e w'=>e=.returned (.bool false)∧Kb w w':=by
 have HR:=Za (Zfi V 0);rw [show vRt false (ct 0) (ca 0) 0=1 from rfl] at HR;clear V;go_enter Tryz.func50,Tryz.ntmps50
 go_wp2_with (go_at_call 92;refine HR.out.mono ?_;rintro e w1 ⟨rfl,b1⟩;have HB:=Za b1;clear b1)
 go_ret;exact ⟨rfl,HB.out⟩
theorem Hs.sizes (h:Hs w0 S w g gs room cs fr):noc cs≤room∧room≤65536∧cs.length≤room:=by
 have h1:=h.inv.sum;have h2:=h.inv.len;have h3:=h.inv.r2;rw [List.length_map] at h1 h2;unfold noc;omega
def fitsN (n room:Nat) (j:Int):Bool:=decide (0≤j∧j≤64∧(n:Int)+258 * j≤room)
theorem Zdf (h:Hs w0 S w g gs room cs fr) (j:Int):Kc 50 #[.pointer (some ⟨g,0,none⟩),.int .i64 j] w fun e w'=>e=.returned (.bool (fitsN (noc cs) room j))∧Kb w w':=by
 have HR:=Za (Zfi h.vw 0);rw [show vRt true (cot cs 0) (cat cs 0) 0=0 from rfl] at HR;have HO:Hid (Kr w 31 #[.pointer (some ⟨g,0,none⟩)] (.int .i64 (noc cs:Int))):=fun w' hb=>Yjl (h.grow hb)
 have HM:Hid (Kr w 38 #[.pointer (some ⟨g,0,none⟩)] (.int .i64 (room:Int))):=fun w' hb=>Ygs (h.grow hb)
 obtain ⟨h1,h2,_⟩:=h.sizes;generalize noc cs=n at HO h1 ⊢;clear h
 by_cases j0:j<0
 ·rw [show fitsN n room j=false by simp [fitsN];omega];clear h1 h2;go_enter Tryz.func50,Tryz.ntmps50
  go_wp2_with (go_at_call 92;refine HR.out.mono ?_;rintro e w1 ⟨rfl,b1⟩;have HB:=Za b1;clear b1)
  go_ret;exact ⟨rfl,HB.out⟩
 by_cases j1:64<j
 ·rw [show fitsN n room j=false by simp [fitsN];omega];clear h1 h2;go_enter Tryz.func50,Tryz.ntmps50
  go_wp2_with (go_at_call 92;refine HR.out.mono ?_;rintro e w1 ⟨rfl,b1⟩;have HB:=Za b1;clear b1)
  go_ret;exact ⟨rfl,HB.out⟩
 obtain ⟨k,rfl⟩:∃k:Nat,j=(k:Int):=⟨j.toNat,by omega⟩;have hk:k≤64:=by omega
 have HV:Hid (fitsN n room (k:Int)=decide (((n:Int)+258 * (k:Int))≤(room:Int))):=by
  show _=_;unfold fitsN;congr 1
  apply propext;constructor
  ·exact fun q=>q.2.2
  ·exact fun q=>⟨by omega,by omega,q⟩
 have w1:wrap64 (258 * (k:Int))=258 * (k:Int):=Go.IntWalk.wrap64_in _ (by omega);have w2:wrap64 ((n:Int)+258 * (k:Int))=(n:Int)+258 * (k:Int):=Go.IntWalk.wrap64_in _ (by omega);have j2: ¬(64:Int)<(k:Int):=j1;have j3: ¬(k:Int)<0:=j0;rw [HV.out];clear HV j0 j1 h1 h2;go_enter Tryz.func50,Tryz.ntmps50
 go_wp2_with (first
  |(go_at_call 92;refine HR.out.mono ?_;rintro e w1 ⟨rfl,b1⟩;have HB:=Za b1;clear b1)
  |(go_at_call 31;refine (HO.out _ HB.out).mono ?_;rintro e w2 ⟨rfl,b2⟩;replace HB:=Za (Zb HB.out b2);clear b2)
  |(go_at_call 38;refine (HM.out _ HB.out).mono ?_;rintro e w3 ⟨rfl,b3⟩;replace HB:=Za (Zb HB.out b3);clear b3))
 go_ret;exact ⟨rfl,HB.out⟩
def vAh (mk:Bool) (q:Nat) (c:Ce) (h:Int):Int:=if vRt mk q c h=0 then (if h≠0∧q-c.ab=0 then 7 else 0) else vRt mk q c h
theorem Zbt {ct:Int→Nat} {ca:Int→Ce} (V:Vw w v mk ct ca) (h:Int):Kc 42 #[v,.int .i64 h] w fun e w'=>e=.returned (.int .i64 (vAh mk (ct h) (ca h) h))∧Kb w w':=by
 have HR:=Za (Zfi V h);have HH:Hid (Kr w 90 #[v,.int .i64 h] (.int .i64 ((ct h-(ca h).ab:Nat):Int))):=fun w' hb=>Zgo (V.grow hb) h
 unfold vAh;generalize vRt mk (ct h) (ca h) h=r at HR ⊢;generalize ct h-(ca h).ab=q at HH ⊢;clear V
 by_cases r0:r=0
 ·subst r0;rw [if_pos rfl]
  by_cases h0:h=0
  ·subst h0;rw [if_neg (by simp)];go_enter Tryz.func42,Tryz.ntmps42
   go_wp2_with (go_at_call 92;refine HR.out.mono ?_;rintro e w1 ⟨rfl,b1⟩;have HB:=Za b1;clear b1)
   go_ret;exact ⟨rfl,HB.out⟩
  ·by_cases q0:q=0
   ·subst q0;rw [if_pos ⟨h0,rfl⟩];go_enter Tryz.func42,Tryz.ntmps42
    go_wp2_with (first
     |(go_at_call 92;refine HR.out.mono ?_;rintro e w1 ⟨rfl,b1⟩;have HB:=Za b1;clear b1)
     |(go_at_call 90;refine (HH.out _ HB.out).mono ?_;rintro e w2 ⟨rfl,b2⟩;replace HB:=Za (Zb HB.out b2);clear b2))
    go_ret;exact ⟨rfl,HB.out⟩
   ·rw [if_neg (fun e=>q0 e.2)];have q1: ¬(q:Int)=0:=by omega
    have q2:((q:Int) == 0)=false:=by simpa using q1
    have q3:(h != 0)=true:=by simpa using h0
    go_enter Tryz.func42,Tryz.ntmps42
    go_wp2_with (first
     |(go_at_call 92;refine HR.out.mono ?_;rintro e w1 ⟨rfl,b1⟩;have HB:=Za b1;clear b1)
     |(go_at_call 90;refine (HH.out _ HB.out).mono ?_;rintro e w2 ⟨rfl,b2⟩;replace HB:=Za (Zb HB.out b2);clear b2))
    go_ret;exact ⟨rfl,HB.out⟩
 ·rw [if_neg r0];go_enter Tryz.func42,Tryz.ntmps42
  go_wp2_with (go_at_call 92;refine HR.out.mono ?_;rintro e w1 ⟨rfl,b1⟩;have HB:=Za b1;clear b1)
  go_ret;exact ⟨rfl,HB.out⟩
def vRf (mk:Bool) (q:Nat) (c:Ce) (h:Int) (n:Nat):Int:=if mk then (if 1024<n then 4 else vAh mk q c h) else 1
theorem Zby {ct:Int→Nat} {ca:Int→Ce} (V:Vw w v mk ct ca) (h:Int) (a:Option Addr) (n c:Nat):Kc 179 #[v,.int .i64 h,.slice a n c] w fun e w'=>e=.returned (.int .i64 (vRf mk (ct h) (ca h) h n))∧Kb w w':=by
 have HR:=Za (Zfi V 0);have HA:Hid (Kr w 42 #[v,.int .i64 h] (.int .i64 (vAh mk (ct h) (ca h) h))):=fun w' hb=>Zbt (V.grow hb) h
 unfold vRf;generalize vAh mk (ct h) (ca h) h=r at HA ⊢;clear V;cases mk with
 | false=>
  rw [show vRt false (ct 0) (ca 0) 0=1 from rfl] at HR;simp only [Bool.false_eq_true,if_false];go_enter Tryz.func179,Tryz.ntmps179
  go_wp2_with (go_at_call 92;refine HR.out.mono ?_;rintro e w1 ⟨rfl,b1⟩;have HB:=Za b1;clear b1)
  go_ret;exact ⟨rfl,HB.out⟩
 | true=>
  rw [show vRt true (ct 0) (ca 0) 0=0 from rfl] at HR;simp only [if_true]
  by_cases hn:1024<n
  ·rw [if_pos hn];have hn2:(1024:Int)<(n:Int):=by omega
   go_enter Tryz.func179,Tryz.ntmps179
   go_wp2_with (go_at_call 92;refine HR.out.mono ?_;rintro e w1 ⟨rfl,b1⟩;have HB:=Za b1;clear b1)
   go_ret;exact ⟨rfl,HB.out⟩
  ·rw [if_neg hn];have hn2: ¬(1024:Int)<(n:Int):=by omega
   go_enter Tryz.func179,Tryz.ntmps179
   go_wp2_with (first
    |(go_at_call 92;refine HR.out.mono ?_;rintro e w1 ⟨rfl,b1⟩;have HB:=Za b1;clear b1)
    |(go_at_call 42;refine (HA.out _ HB.out).mono ?_;rintro e w2 ⟨rfl,b2⟩;replace HB:=Za (Zb HB.out b2);clear b2))
   go_ret;exact ⟨rfl,HB.out⟩
theorem Zip (w:World) (K:Lq) (hK:Key K) (d:Nat) (hd:d<256) (x y:Int):Kc 216 #[.agg (B K),.int .i64 (d:Int),.int .i64 x,.int .i64 y] w fun e w'=>e=.returned (.tuple #[.int .i64 (if kb K d=1 then y else x),.int .i64 (if kb K d=1 then x else y)])∧Kb w w':=by
 have HBT:Hid (∀w',Kc 109 #[.agg (B K),.int .i64 (d:Int)] w' fun e w''=>e=.returned (.int .i64 (kb K d))∧Below w'.heap.size w' w''):=fun w'=>by
  have:=Zmn K (d:Int) w' hK;rwa [Zdp K _ hd] at this
 have HPS:Hid ((Tryz.prog.info? 34).map (·.size)=some (B K).size):=by show _=_;rw [Zj,hK.1];exact Zi
 have hq:=Zdq K d;generalize kb K d=q at HBT hq ⊢;clear hK hd;rcases hq with rfl | rfl
 ·rw [if_neg (by omega),if_neg (by omega)];go_enter Tryz.func216,Tryz.ntmps216
  go_wp2_with (first
   |((with_reducible refine Zl 4 ?_);refine Zc _ rfl _ _ rfl _ rfl ?_;intro w1 b5 hg5 hl5 B5 q5;have HB5:=Za B5;have HQ5:=Za q5;clear hg5 hl5 B5 q5)
   |((with_reducible refine Zk 10 4 ?_);refine Zd _ rfl _ _ rfl b5 _ rfl HB5.out _ _ Tryz.underlying34 HPS.out ?_)
   |(go_at_call 109;refine (HBT.out _).mono ?_;rintro e w2 ⟨rfl,b2⟩;have HQ2:=Za (Zb HQ5.out b2);clear b2))
  go_ret2;exact ⟨rfl,HQ2.out⟩
 ·rw [if_pos rfl,if_pos rfl];go_enter Tryz.func216,Tryz.ntmps216
  go_wp2_with (first
   |((with_reducible refine Zl 4 ?_);refine Zc _ rfl _ _ rfl _ rfl ?_;intro w1 b5 hg5 hl5 B5 q5;have HB5:=Za B5;have HQ5:=Za q5;clear hg5 hl5 B5 q5)
   |((with_reducible refine Zk 10 4 ?_);refine Zd _ rfl _ _ rfl b5 _ rfl HB5.out _ _ Tryz.underlying34 HPS.out ?_)
   |(go_at_call 109;refine (HBT.out _).mono ?_;rintro e w2 ⟨rfl,b2⟩;have HQ2:=Za (Zb HQ5.out b2);clear b2))
  go_ret2;exact ⟨rfl,HQ2.out⟩
end Go.Proofs.YtgfdgjkbcdmboaaGreatDoor
