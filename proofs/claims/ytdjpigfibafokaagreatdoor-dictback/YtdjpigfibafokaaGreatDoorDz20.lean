/- What stands in every world that differs in some blocks alone; rows of any kind that are the call's own. -/
import Derived.Test.YtdjpigfibafokaaGreatDoorDz01
import Derived.Test.YtdjpigfibafokaaGreatDoorDz19
import Derived.Test.YtdjpigfibafokaaGreatDoorDz16
import Derived.Test.YtdjpigfibafokaaGreatDoorDz18
namespace Go.Proofs.YtdjpigfibafokaaGreatDoor
variable {S S1 pend:List Nat}
variable {base g h k n:Nat}
variable {cs:Lz}
variable {v vf vp:Value}
variable {w w' w0 w1:World}
set_option maxHeartbeats 4000000
set_option maxRecDepth 20000
open Go.RowKit

def Kq (S:List Nat) (w:World) (P:World→Prop):Prop:=∀w',Mod S w w'→P w'
theorem Kq.now {P:World→Prop} (h:Kq S w P):P w:=h w (Mod.refl _ _)
theorem Kq.turn {P:World→Prop} (h:Kq S w P) (m:Mod S w w1) (n:New S w S1):Kq S1 w1 P:=fun w' m'=>h w' (m.trans n m')
theorem Kq.step {P:World→Prop} (h:Kq S w P) (m:Mod S w w1):Kq S w1 P:=h.turn m (New.refl _ _)
theorem Kq.grow {P:World→Prop} (h:Kq S w P) (b:Kb w w1):Kq S w1 P:=h.step (Mod.of_below b S)
theorem Kq.blk {t:TypeId} {cs:Array Value} (h:Blk w g t cs) (hn:g ∉ S):Kq S w (fun w'=>Blk w' g t cs):=fun _ m=>h.mod m hn
theorem Kq.of_low {P:World→Prop} (h:∀w',Kb w0 w'→P w') (hb:Kb w0 w) (hS:∀k∈S,w0.heap.size≤k):Kq S w P:=fun w' m=>h w' (hb.trans (m.below hS hb.size))

theorem owR_mod {e:TypeId} {xs:List Value} (h:w.ownsRow base e k v n xs) (m:Mod S w w') (hn:∀g,v.ownBlock=some g→g ∉ S):w'.ownsRow base e k v n xs:=by
  refine ⟨h.1,?_⟩;rcases h.2 with hh | ⟨g,cap,cur,rfl,hb,hgg,rest⟩
  · exact .inl hh
  · exact .inr ⟨g,cap,cur,rfl,hb,(m.block g (Array.getElem?_eq_some_iff.1 hgg).1 (hn g rfl)).trans hgg,rest⟩
theorem owR_grow {e:TypeId} {xs:List Value} (h:w.ownsRow base e k v n xs) (hb:Kb w w'):w'.ownsRow base e k v n xs:=owR_mod h (Mod.of_below hb []) (fun _ _ h=>by cases h)
theorem owR_base {base':Nat} {e:TypeId} {xs:List Value} (h:w.ownsRow base e k v n xs) (hb:base'≤base):w.ownsRow base' e k v n xs:=by
  refine ⟨h.1,h.2.imp id ?_⟩;rintro ⟨g,cap,cur,e1,e2,e3⟩;exact ⟨g,cap,cur,e1,Nat.le_trans hb e2,e3⟩
theorem owR_lst {e:TypeId} {xs:List Value} (h:w.ownsRow base e k v n xs):Lst w e k v n xs:=⟨h.1,h.2.imp id (fun ⟨g,cap,cur,a1,_,a3⟩=>⟨g,cap,cur,a1,Nat.zero_le _,a3⟩)⟩
theorem owR_below {e:TypeId} {xs:List Value} (hb:Kb w0 w) (h:w.ownsRow base e k v n xs) (hl:w0.heap.size≤base) (hg:w.grownBy w' v.ownBlock):Kb w0 w':=by
  have m:Mod v.ownBlock.toList w w':=Mod.of_grown hg (fun k hk=>by simp [hk]);refine hb.trans (m.below (fun k hk=>?_) hb.size);have:=(h.lt k (by simpa using hk)).1;omega

end Go.Proofs.YtdjpigfibafokaaGreatDoor

namespace Go.Proofs.YtdjpigfibafokaaGreatDoor
variable {S S1 pend:List Nat}
variable {base g h k n:Nat}
variable {cs:Lz}
variable {v vf vp:Value}
variable {w w' w0 w1:World}
set_option maxHeartbeats 4000000
set_option maxRecDepth 20000
open Go.RowKit

def Hs (w0:World) (S:List Nat) (w:World) (g gs room:Nat) (cs:Lz) (fr:List Nat):Prop:=STurn w0 g gs S room cs fr w∧Wf cs []

section
variable {w0 w:World} {S:List Nat} {g gs room:Nat} {cs:Lz} {fr:List Nat}

theorem Hs.here (s:Stm w g gs vp vf room cs fr) (W:Wf cs []):Hs w (stB g gs vp vf cs) w g gs room cs fr:=⟨STurn.refl (Below.refl _ _) s,W⟩
theorem Hs.mod (h:Hs w0 S w g gs room cs fr):Mod S w0 w:=by obtain ⟨⟨_,_,_,m,_⟩,_⟩:=h;exact m
theorem Hs.kq {P:World→Prop} (h:Hs w0 S w g gs room cs fr) (k:Kq S w0 P):P w:=k w h.mod
theorem Hs.grow (h:Hs w0 S w g gs room cs fr) (hb:Kb w w'):Hs w0 S w' g gs room cs fr:=by
  obtain ⟨t,W⟩:=h;exact ⟨t.trans fun vp vf s=>STurn.refl hb (s.grow hb),W⟩
theorem Hs.vw (h:Hs w0 S w g gs room cs fr):Vw w (.pointer (some ⟨g,0,none⟩)) true (cot cs) (cat cs):=by
  obtain ⟨⟨vp,vf,s,_,_⟩,W⟩:=h;exact vw_ok s W
theorem Hs.inv (h:Hs w0 S w g gs room cs fr):Inv room (cs.map pl) fr:=by
  obtain ⟨⟨vp,vf,s,_,_⟩,W⟩:=h;exact s.sl.inv
theorem Hs.frok (h:Hs w0 S w g gs room cs fr):FrOk cs fr:=frOk_inv h.inv
theorem Hs.free (h:Hs w0 S w g gs room cs fr) (hn:noc cs<room): ¬Full room cs fr:=fun f=>by
  have:=h.inv.sum;rw [f.1,List.length_map] at this;have:=f.2;unfold noc at hn;simp at *;omega
theorem Hs.from (h:Hs w0 S w g gs room cs fr):∃S',Hs w S' w g gs room cs fr∧New S w0 S'∧(∀P:World→Prop,Kq S w0 P→Kq S' w P)∧(∀k∈S',k<w.heap.size)∧∀w' cs' fr',Hs w S' w' g gs room cs' fr'→Hs w0 S w' g gs room cs' fr':=by
  obtain ⟨⟨vp,vf,s,m,n⟩,W⟩:=h;refine ⟨stB g gs vp vf cs,Hs.here s W,n,fun P k=>k.turn m n,s.lts,fun w' cs' fr' k=>⟨?_,k.2⟩⟩;obtain ⟨vp',vf',s',m',n'⟩:=k.1;exact ⟨vp',vf',s',m.trans n m',n.trans m.size n'⟩

theorem hs_hold (h:Hs w0 S w g gs room cs fr) (i:Nat) (hc:0<cc cs i) (hm:cc cs i<1073741824):Kc 96 #[.pointer (some ⟨g,0,none⟩),.int .i64 ((i:Int)+1)] w fun e w'=>e=.returned (.int .i64 0)∧Hs w0 S w' g gs room (moreC cs i) fr:=by
  obtain ⟨t,W⟩:=h;obtain ⟨vp,vf,s,m,n⟩:=t;refine (holdS_ok s i hc hm).mono ?_;rintro e w' ⟨rfl,t'⟩;obtain ⟨vp',vf',s',m',n'⟩:=t';exact ⟨rfl,⟨vp',vf',s',m.trans n m',n.trans m.size n'⟩,W.more i hc⟩
theorem hs_hold_bad (h:Hs w0 S w g gs room cs fr) (q:Int) (hc:cot cs q=0):Kc 96 #[.pointer (some ⟨g,0,none⟩),.int .i64 q] w fun e w'=>e=.returned (.int .i64 7)∧Hs w0 S w' g gs room cs fr:=by
  have hh:=h;obtain ⟨⟨vp,vf,s,m,n⟩,W⟩:=h;exact (holdS_bad s q hc).mono fun e w' ⟨e1,b⟩=>⟨e1,b ▸ hh⟩
theorem hs_leaf (h:Hs w0 S w g gs room cs fr) (K:Lq) (v:Value) (bs:Lq) (hr:Reads w v bs) (hK:Key K) (hL:Laid w) (hl:bs.length≤1024) (hf: ¬Full room cs fr):Kc 223 #[.pointer (some ⟨g,0,none⟩),.agg (B K),v] w fun e w'=>∃v',e=.returned (.tuple #[.int .i64 (tkH cs fr:Int),.int .i64 0])∧CeOk (lfC (lfD K (vaD bs)) K v' bs)∧Hs w0 S w' g gs room (tkC cs fr (1,lfC (lfD K (vaD bs)) K v' bs)) fr.dropLast:=by
  obtain ⟨⟨vp,vf,s,m,n⟩,W⟩:=h;have hbs:Bytes bs:=by obtain ⟨_,_,_,_,_,hb,_⟩:=hr;exact hb
  refine (leafS_ok s K v bs hr hK hL hl hf).mono ?_;rintro e w' ⟨v',rfl,ok,t⟩;have tk:=(tk_of (frOk_inv s.sl.inv) (1,lfC (lfD K (vaD bs)) K v' bs)).2;obtain ⟨vp',vf',s',m',n'⟩:=t;exact ⟨v',rfl,ok,⟨vp',vf',s',m.trans n m',n.trans m.size n'⟩,W.leaf tk (leaf_ok K v' bs hbs hl) ok rfl⟩
theorem hs_inner (h:Hs w0 S w g gs room cs fr) (d l r:Nat) (hd:d<256) (hml:mayP cs (l:Int)) (hmr:mayP cs (r:Int)) (u:Bool) (hu:u=true↔Und (sdC cs l).key (sdC cs r).key (d:Int)) (hf:fitP d (sdC cs l) (sdC cs r) u=true) (hL:Laid w) (hfu: ¬Full room cs fr):Kc 225 #[.pointer (some ⟨g,0,none⟩),.int .i64 (d:Int),.int .i64 (l:Int),.int .i64 (r:Int)] w fun e w'=>∃cs',InnR cs fr d l r cs'∧e=.returned (.tuple #[.int .i64 (tkH cs fr:Int),.int .i64 0])∧Hs w0 S w' g gs room cs' fr.dropLast:=by
  obtain ⟨⟨vp,vf,s,m,n⟩,W⟩:=h;refine (innerS_ok s W d l r hd hml hmr u hu hf hL hfu).mono ?_;rintro e w' ⟨K,hK,rfl,t⟩;have tk:=(tk_of (frOk_inv s.sl.inv) (1,inC (inD (sdD cs l) (sdD cs r)) K ((sdC cs l).sz+(sdC cs r).sz) d l r)).2;obtain ⟨vp',vf',s',m',n'⟩:=t;exact ⟨_,⟨K,hK,rfl⟩,rfl,⟨vp',vf',s',m.trans n m',n.trans m.size n'⟩,W.inner tk (inn_ok W hd hml hmr hu hf hK) ⟨dig_length _,dig_bytes _,hK.1,none,0,rfl⟩ rfl hml.own hmr.own⟩
theorem hs_drop (h:Hs w0 S w g gs room cs fr) (i:Nat) (ho:0<own cs [] i):Kc 97 #[.pointer (some ⟨g,0,none⟩),.int .i64 ((i+1:Nat):Int)] w fun e w'=>∃cs' fr' n,Run cs fr [i+1] cs' fr' n∧Step cs [i+1] cs' [] n∧e=.returned (.tuple #[.int .i64 (n:Int),.int .i64 0])∧Hs w0 S w' g gs room cs' fr':=by
  obtain ⟨⟨vp,vf,s,m,n⟩,W⟩:=h;refine (dropS_ok s W i ho).mono ?_;rintro e w' ⟨cs',fr',k,hr,rfl,t⟩;have st:=hr.step (W.less i ho);obtain ⟨vp',vf',s',m',n'⟩:=t;exact ⟨cs',fr',k,hr,st,rfl,⟨vp',vf',s',m.trans n m',n.trans m.size n'⟩,st.wf⟩
theorem hs_drop_miss (h:Hs w0 S w g gs room cs fr) (q:Int) (hm:cot cs q≤(cat cs q).ab):Kc 97 #[.pointer (some ⟨g,0,none⟩),.int .i64 q] w fun e w'=>e=.returned (.tuple #[.int .i64 0,.int .i64 7])∧Hs w0 S w' g gs room cs fr:=by
  have hh:=h;obtain ⟨⟨vp,vf,s,m,n⟩,W⟩:=h;exact (dropS_miss s W q hm).mono fun e w' ⟨e1,b⟩=>⟨e1,hh.grow b⟩
theorem hs_occ (h:Hs w0 S w g gs room cs fr):Kc 21 #[.pointer (some ⟨g,0,none⟩)] w fun e w'=>e=.returned (.int .i64 (noc cs:Int))∧Kb w w':=by
  obtain ⟨⟨vp,vf,s,m,n⟩,W⟩:=h;exact occS_ok s
theorem hs_room (h:Hs w0 S w g gs room cs fr):Kc 121 #[.pointer (some ⟨g,0,none⟩)] w fun e w'=>e=.returned (.int .i64 (room:Int))∧Kb w w':=by
  obtain ⟨⟨vp,vf,s,m,n⟩,W⟩:=h;exact roomS_ok s
end

end Go.Proofs.YtdjpigfibafokaaGreatDoor

namespace Go.Proofs.YtdjpigfibafokaaGreatDoor
variable {S S1 pend:List Nat}
variable {base g h k n:Nat}
variable {cs:Lz}
variable {v vf vp:Value}
variable {w w' w0 w1:World}
set_option maxHeartbeats 4000000
set_option maxRecDepth 20000
open Go.RowKit

def vNd (mk:Bool) (ca:Int→Ce) (h:Int):Lq:=if (ca h).kind=1 then nd 1 (ca h).key (vaD (ca h).bs) z32 z32 else if (ca h).kind=2 then nd 2 z32 z32 (vDg mk ca ((ca h).l:Int)) (vDg mk ca ((ca h).r:Int)) else nd 0 z32 z32 z32 z32

end Go.Proofs.YtdjpigfibafokaaGreatDoor

namespace Go.Proofs.YtdjpigfibafokaaGreatDoor
variable {S S1 pend:List Nat}
variable {base g h k n:Nat}
variable {cs:Lz}
variable {v vf vp:Value}
variable {w w' w0 w1:World}
set_option maxHeartbeats 4000000
set_option maxRecDepth 20000
open Go.RowKit

theorem pth_ln (D:Lq) (h:D.length=32):(Tryz.prog.info? 63).map (·.size)=some (B D).toList.length:=by rw [B_toList,List.length_map,h];exact size_path

theorem fork_any {ct:Int→Nat} {ca:Int→Ce} (V:Vw w v true ct ca) (h:Int) (K:Lq) (hK:Key K) (hk:(ca h).kind=2) (hd:(ca h).dp<256):Kc 175 #[v,.int .i64 h,.agg (B K)] w fun e w'=>e=.returned (.tuple #[.int .i64 ((if kb K (ca h).dp=1 then (ca h).r else (ca h).l:Nat):Int),.int .i64 ((if kb K (ca h).dp=1 then (ca h).l else (ca h).r:Nat):Int)])∧Kb w w':=by
  have HSD:Hid (Kr w 132 #[v,.int .i64 h] (.tuple #[.int .i64 ((ca h).l:Int),.int .i64 ((ca h).r:Int)])):=fun w' hb=>sides_any (V.grow hb) h
  have HDP:Hid (Kr w 192 #[v,.int .i64 h] (.int .i64 ((ca h).dp:Int))):=fun w' hb=>by
    have:=depth_any (V.grow hb) h;rwa [show vDp true (ca h)=((ca h).dp:Int) by simp [vDp,hk]] at this
  have HBT:Hid (∀w',Kc 180 #[.agg (B K),.int .i64 ((ca h).dp:Int)] w' fun e w''=>e=.returned (.int .i64 (kb K (ca h).dp))∧Below w'.heap.size w' w''):=fun w'=>by
    have:=bit_any K ((ca h).dp:Int) w' hK;rwa [kbi_in K _ hd] at this
  have HPL:=hidden (pth_ln K hK.1);clear V hk hd hK;generalize (ca h).l=l at HSD ⊢;generalize (ca h).r=r at HSD ⊢;generalize (ca h).dp=d at HDP HBT ⊢;have hq:=kb_two K d;generalize kb K d=q at HBT hq ⊢;generalize hdd:(d:Int)=dd at HDP HBT;clear hdd;rcases hq with rfl | rfl
  · rw [if_neg (by omega),if_neg (by omega)]
    go_enter Tryz.func175,Tryz.ntmps175
    go_wp2_with (first
      |((with_reducible refine at_bxd 5 ?_);refine wpList_bx _ rfl _ _ rfl _ rfl ?_;intro w1 b5 hg5 hl5 B5 q5;have HB5:=hidden B5;have HQ5:=hidden q5;clear hg5 hl5 B5 q5)
      |(go_at_call 132;refine (HSD.out _ HQ5.out).mono ?_;rintro e w2 ⟨rfl,b2⟩;have HB52:=hidden (HB5.out.grow b2);have HQ2:=hidden (grow_trans HQ5.out b2);clear b2))
    refine wp_region_held_drew (S:=fun w'=>Kb w2 w') (by kernel_rfl) ((below_drewN (Below.refl _ _) 1)) (fun hHeld=>?_);refine tkg 0 (.agg (B K)) rfl (yieldsIf_load_mid rfl 63 (.tmp 5) rfl b5 0 rfl (B K).toList _ (fun w hS=>(HB52.out.grow hS).range) Tryz.underlying63 rfl HPL.out) hHeld ?_;simp only [Act.put,zq1,zq2,zq4,zq5,zq6];refine tkp 1 v hHeld ?_;simp only [Act.put,zq1,zq2,zq3,zq4,zq5,zq6];refine tkp 2 (.int .i64 h) hHeld ?_;simp only [Act.put,zq1,zq2,zq3,zq4,zq5,zq6];refine wpAnyH_ready (rs:=[3]) (by kernel_rfl) (by simp) ?_;refine AllReadyH.cons rfl (fun KQ hK=>?_) AllReadyH.nil;go_simp;refine (HDP.out _ (grow_trans HQ2.out hHeld)).mono ?_;rintro e z1 ⟨rfl,a1⟩;refine hK.out _ _ (grow_trans hHeld a1) (fun hHeld=>?_);clear hK KQ;refine wpAnyH_ready (rs:=[4]) (by kernel_rfl) (by simp) ?_;refine AllReadyH.cons rfl (fun KQ hK=>?_) AllReadyH.nil;go_simp;refine (HBT.out _).mono ?_;rintro e z2 ⟨rfl,a2⟩;refine hK.out _ _ (grow_trans hHeld a2) (fun hHeld=>?_);clear hK KQ;refine tkp 5 (.bool false) hHeld ?_;simp only [Act.put,zq1,zq2,zq3,zq4,zq5,zq6];refine wpAnyH_done (by kernel_rfl) ?_ _;go_wp2
    go_ret2;exact ⟨rfl,grow_trans HQ2.out hHeld⟩
  · rw [if_pos rfl,if_pos rfl]
    go_enter Tryz.func175,Tryz.ntmps175
    go_wp2_with (first
      |((with_reducible refine at_bxd 5 ?_);refine wpList_bx _ rfl _ _ rfl _ rfl ?_;intro w1 b5 hg5 hl5 B5 q5;have HB5:=hidden B5;have HQ5:=hidden q5;clear hg5 hl5 B5 q5)
      |(go_at_call 132;refine (HSD.out _ HQ5.out).mono ?_;rintro e w2 ⟨rfl,b2⟩;have HB52:=hidden (HB5.out.grow b2);have HQ2:=hidden (grow_trans HQ5.out b2);clear b2))
    refine wp_region_held_drew (S:=fun w'=>Kb w2 w') (by kernel_rfl) ((below_drewN (Below.refl _ _) 1)) (fun hHeld=>?_);refine tkg 0 (.agg (B K)) rfl (yieldsIf_load_mid rfl 63 (.tmp 5) rfl b5 0 rfl (B K).toList _ (fun w hS=>(HB52.out.grow hS).range) Tryz.underlying63 rfl HPL.out) hHeld ?_;simp only [Act.put,zq1,zq2,zq4,zq5,zq6];refine tkp 1 v hHeld ?_;simp only [Act.put,zq1,zq2,zq3,zq4,zq5,zq6];refine tkp 2 (.int .i64 h) hHeld ?_;simp only [Act.put,zq1,zq2,zq3,zq4,zq5,zq6];refine wpAnyH_ready (rs:=[3]) (by kernel_rfl) (by simp) ?_;refine AllReadyH.cons rfl (fun KQ hK=>?_) AllReadyH.nil;go_simp;refine (HDP.out _ (grow_trans HQ2.out hHeld)).mono ?_;rintro e z1 ⟨rfl,a1⟩;refine hK.out _ _ (grow_trans hHeld a1) (fun hHeld=>?_);clear hK KQ;refine wpAnyH_ready (rs:=[4]) (by kernel_rfl) (by simp) ?_;refine AllReadyH.cons rfl (fun KQ hK=>?_) AllReadyH.nil;go_simp;refine (HBT.out _).mono ?_;rintro e z2 ⟨rfl,a2⟩;refine hK.out _ _ (grow_trans hHeld a2) (fun hHeld=>?_);clear hK KQ;refine tkp 5 (.bool true) hHeld ?_;simp only [Act.put,zq1,zq2,zq3,zq4,zq5,zq6];refine wpAnyH_done (by kernel_rfl) ?_ _;go_wp2
    go_ret2;exact ⟨rfl,grow_trans HQ2.out hHeld⟩

def HdPost (hs:List Nat) (fin:Int) (w:World) (e:Ending) (w':World):Prop:=
  ∃a c,e=.returned (.tuple #[.slice a hs.length c,.int .i64 fin,.int .i64 0])∧w'.ownsRow w.heap.size 3 1 (.slice a hs.length c) hs.length (nats hs)∧Kb w w'

def sLen:Value→Nat
  | .slice _ n _=>n
  | _=>0

theorem cat_is (h1:1≤h):cat cs (h:Int)=ce cs (h-1):=by
  rw [cat_nat,sdC,if_neg (by omega)]

theorem handles_any (V:Vw w v true (cot cs) (cat cs)) (W:Wf cs pend) (h:Nat) (T:Tre) (hT:IsT cs h T) (K:Lq) (hK:Key K) (he:vRt true (cot cs h) (cat cs h) h=0):Kc 148 #[v,.int .i64 (h:Int),.agg (B K)] w (HdPost (T.hs K h) (T.fin K h) w):=by
  have HR:Hid (Kr w 112 #[v,.int .i64 (h:Int)] (.int .i64 0)):=fun w' hb=>by
    have:=root_any (V.grow hb) (h:Int);rwa [he] at this
  have HPS:Hid ((Tryz.prog.info? 63).map (·.size)=some (B K).size):=by show _=_;rw [B_size,hK.1];exact size_path
  have HV:=hidden V;have HW:=hidden W;have HK:=hidden hK;have HT:=hidden hT;have HN:Hid ((T.hs K h).length≤256):=by
    show _≤_;rw [Tre.hs_oth]
    by_cases k:(sdC cs h).kind=2
    · have:=(way_tree W K T h (sdC cs h).dp hT (fun _=>rfl) (by
        match T,hT with
        | .emp,e=>exact absurd k (by rw [show h=0 from e];show ¬zc.kind=2;decide)
        | .lf _ _,⟨h1,_,h3,_⟩=>rw [sdC,if_neg (by omega)] at k;omega
        | .nd d hl hr L R,hT=>
          have:=(nd_ok W hT).dp;obtain ⟨h1,_,_,h4,_⟩:=hT;rw [sdC,if_neg (by omega),h4];omega)).2.2
      omega
    · have:=(way_tree W K T h 0 hT (fun q=>absurd q k) (by omega)).2.2
      omega
  have HPost:Hid (∀a c w',w'.ownsRow w.heap.size 3 1 (.slice a (T.hs K h).length c) (T.hs K h).length (nats (T.hs K h))→Kb w w'→HdPost (T.hs K h) (T.fin K h) w (.returned (.tuple #[.slice a (T.hs K h).length c,.int .i64 (T.fin K h:Int),.int .i64 0])) w'):=fun a c w' h1 h2=>⟨a,c,rfl,h1,h2⟩
  obtain ⟨hh,hhe⟩:∃y:Int,y=(h:Int):=⟨_,rfl⟩;rw [← hhe] at HR ⊢;have HHE:=hidden hhe;clear V W hK hT he hhe;generalize HE:HdPost (T.hs K h) (T.fin K h) w=P at HPost ⊢;go_enter Tryz.func148,Tryz.ntmps148
  go_wp2_with (first
    |((with_reducible refine at_bxd 5 ?_);refine wpList_bx _ rfl _ _ rfl _ rfl ?_;intro w1 b5 hg5 hl5 B5 q5;have HB5:=hidden B5;have HQ5:=hidden q5;have HG5:=hidden hg5;clear hg5 hl5 B5 q5)
    |(go_at_call 112;refine (HR.out _ HQ5.out).mono ?_;rintro e w2 ⟨rfl,b2⟩;have HB52:=hidden (HB5.out.grow b2);have HQ2:=hidden (grow_trans HQ5.out b2);clear b2))
  clear HR HB5 HQ5 HG5
  go_loopw [6,7] (fun wv ev wr=>∃(pre:List Nat) (x:Nat) (U:Tre) (a:Option Addr) (n c:Nat),wv=.slice a n c∧ev=.int .i64 (x:Int)∧Hid (n=pre.length)∧Hid (wr.ownsRow w2.heap.size 3 1 (.slice a n c) n (nats pre))∧Hid (IsT cs x U∧pre++U.hs K x=T.hs K h∧U.fin K x=T.fin K h)∧Hid (Kb w2 wr)) (fun wv _ _=>300-sLen wv)
  case atStart=>exact ⟨[],h,T,none,0,0,rfl,by rw [HHE.out],rfl,World.ownsRow_nil _ _ _ _,⟨HT.out,rfl,rfl⟩,Below.refl _ _⟩
  case round=>
    clear HT HHE;obtain ⟨pre,x,U,a,n,c,rfl,rfl,hn,hO,hU,hB⟩:=hrel;have HVR:=hidden (HV.out.grow (grow_trans HQ2.out hB.out));have hlen:n+(U.hs K x).length=(T.hs K h).length:=by
      have:=congrArg List.length hU.out.2.1;rw [List.length_append] at this;rw [hn.out];exact this
    have h256:=HN.out;have HKD:Hid (Kc 149 #[v,.int .i64 (x:Int)] wr fun e w'=>e=.returned (.int .u8 (cat cs (x:Int)).kind)∧Kb wr w'):=kind_any HVR.out (x:Int);have HFin:Hid (U.hs K x=[]→U.fin K x=x→∀w',Kb wr w'→P (.returned (.tuple #[.slice a n c,.int .i64 (x:Int),.int .i64 0])) w'):=fun e1 e2 w' hb=>by
      have q1:=hU.out.2.1;rw [e1,List.append_nil] at q1;have q2:=hU.out.2.2;rw [e2] at q2;have q3:=hn.out;have hO':=owR_grow (owR_base hO.out HQ2.out.size) hb;rw [q3,q1] at hO';rw [q3,q1,q2];exact HPost.out a c w' hO' (grow_trans (grow_trans HQ2.out hB.out) hb)
    cases U with
    | emp=>
      have hx:x=0:=hU.out.1;have HKZ:Hid ((cat cs (x:Int)).kind=0):=by rw [hx];rfl
      rw [HKZ.out] at HKD;have HF:=hidden (HFin.out rfl rfl);generalize (x:Int)=y at HKD HF ⊢;clear HFin HKZ hx hU hlen h256 HVR
      go_wp2_with (first
        |(go_at_call 149;refine HKD.out.mono ?_;rintro e w3 ⟨rfl,b3⟩;have HB3:=hidden b3;clear b3))
      go_ret3;exact HF.out _ HB3.out
    | lf k b=>
      obtain ⟨h1,h2,h3,h4,h5⟩:=hU.out.1;have HKZ:Hid ((cat cs (x:Int)).kind=1):=by rw [cat_is h1];exact h3
      rw [HKZ.out] at HKD;have HF:=hidden (HFin.out rfl rfl);generalize (x:Int)=y at HKD HF ⊢;clear HFin HKZ hU hlen h256 HVR h1 h2 h3 h4 h5
      go_wp2_with (first
        |(go_at_call 149;refine HKD.out.mono ?_;rintro e w3 ⟨rfl,b3⟩;have HB3:=hidden b3;clear b3))
      go_ret3;exact HF.out _ HB3.out
    | nd d hl hr L R=>
      have hno:=nd_ok HW.out hU.out.1;obtain ⟨h1,h2,h3,h4,h5,h6,h7,h8⟩:=hU.out.1;have hca:=cat_is (cs:=cs) h1;rw [show (cat cs (x:Int)).kind=2 by rw [hca];exact h3] at HKD;have HFK:Hid (Kr w 175 #[v,.int .i64 (x:Int),.agg (B K)] (.tuple #[.int .i64 ((if kb K d=1 then hr else hl:Nat):Int),.int .i64 ((if kb K d=1 then hl else hr:Nat):Int)])):=fun w' hb=>by
        have:=fork_any (HV.out.grow hb) (x:Int) K HK.out (by rw [hca];exact h3) (by rw [hca,h4];exact hno.dp);rw [hca,h4,h5,h6] at this;exact this
      have hcut:(Tre.nd d hl hr L R).hs K x=x::(if kb K d=1 then R.hs K hr else L.hs K hl):=rfl;have hfi:(Tre.nd d hl hr L R).fin K x=(if kb K d=1 then R.fin K hr else L.fin K hl):=rfl;have HNX:Hid (∃U',IsT cs (if kb K d=1 then hr else hl) U'∧(pre++[x])++U'.hs K (if kb K d=1 then hr else hl)=T.hs K h∧U'.fin K (if kb K d=1 then hr else hl)=T.fin K h):=by
        have q1:=hU.out.2.1;have q2:=hU.out.2.2;rw [hcut] at q1;rw [hfi] at q2;show ∃_,_
        by_cases q:kb K d=1
        · rw [if_pos q] at q1 q2 ⊢
          exact ⟨R,h8,by rw [List.append_assoc];exact q1,q2⟩
        · rw [if_neg q] at q1 q2 ⊢
          exact ⟨L,h7,by rw [List.append_assoc];exact q1,q2⟩
      have hn256:n+1≤256:=by
        rw [hcut,List.length_cons] at hlen;omega
      generalize (if kb K d=1 then hr else hl:Nat)=m1 at HFK HNX;generalize (if kb K d=1 then hl else hr:Nat)=m2 at HFK;obtain ⟨y,hy⟩:∃y:Int,y=(x:Int):=⟨_,rfl⟩;rw [← hy] at HKD HFK;rw [← hy];have HY:=hidden hy;have H256:=hidden hn256;clear HFin hU hlen h256 HVR h1 h2 h3 h4 h5 h6 h7 h8 hca hcut hfi hno hy hn256
      go_wp2_with (first
        |(go_at_call 149;refine HKD.out.mono ?_;rintro e w3 ⟨rfl,b3⟩;have HB3:=hidden b3;have HO3:=hidden ((owR_grow (owR_grow hO.out b3) (grow_alloc w3 (.cells #[.int .i64 y] 3))));clear b3)
        |(at_builtin;refine wpList_appB _ rfl _ _ _ rfl w2.heap.size 3 1 8 Tryz.underlying45 info_nat (by omega) _ n (nats pre) rfl HO3.out w3.heap.size [Value.int .i64 y] rfl (Blk.new _ _ _) rfl (by intro u hu;simp at hu;subst hu;rfl) (by have:=H256.out;simp only [maxLen];omega) (by have:=H256.out;omega) (Nat.le_trans hB.out.size (Nat.le_trans HB3.out.size (by simp))) ?_;intro a4 c4 w4 o4 g4;have HO4:=hidden o4;have HB4:=hidden (owR_below (grow_trans (grow_trans hB.out HB3.out) (grow_alloc w3 (.cells #[.int .i64 y] 3))) HO3.out (Nat.le_refl _) g4);clear o4 g4)
        |((with_reducible refine at_ldd 30 5 ?_);refine wpList_ld _ rfl _ _ rfl b5 _ rfl (HB52.out.grow HB4.out) _ _ Tryz.underlying63 HPS.out ?_)
        |(go_at_call 175;refine (HFK.out _ (grow_trans HQ2.out HB4.out)).mono ?_;rintro e w5 ⟨rfl,b5'⟩;have HB5:=hidden b5';clear b5'))
      obtain ⟨U',hU1,hU2,hU3⟩:=HNX.out;have ho5:=owR_grow HO4.out HB5.out;rw [HY.out,← nats_snoc] at ho5;exact ⟨⟨pre++[x],m1,U',a4,n+1,c4,rfl,rfl,by rw [List.length_append,List.length_singleton,← hn.out];exact rfl,ho5,⟨hU1,hU2,hU3⟩,grow_trans HB4.out HB5.out⟩,by have:=H256.out;simp only [sLen];omega⟩

end Go.Proofs.YtdjpigfibafokaaGreatDoor
