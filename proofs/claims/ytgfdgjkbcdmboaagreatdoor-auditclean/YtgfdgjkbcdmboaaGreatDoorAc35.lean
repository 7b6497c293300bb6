/- The document's store beside the program's: what both tell of a handle. -/
import Derived.Test.YtgfdgjkbcdmboaaGreatDoorAc34
namespace Go.Proofs.YtgfdgjkbcdmboaaGreatDoor
set_option maxRecDepth 20000
open Go.RowKit
structure SatIs (cs:List (Nat×Ce)) (ss:List Sp) (q:Int):Prop where
 kind:(sat ss q).kind=(cat cs q).kind
 d:(sat ss q).d=(cat cs q).dp
 bs:(sat ss q).bs=(cat cs q).bs
 l:(sat ss q).l=(cat cs q).l
 r:(sat ss q).r=(cat cs q).r
 own:(sat ss q).own=cot cs q-(cat cs q).ab
 sum:(sat ss q).own+(sat ss q).sd=cot cs q
 key:(cat cs q).kind=1→(sat ss q).key=(cat cs q).key
theorem Zce {cs:List (Nat×Ce)} {ss:List Sp} (R:Rel7 cs [] [] ss) (W:Wf cs []) (q:Int):SatIs cs ss q:=by
 by_cases h:1≤q
 ·have hle:=W.le (q-1).toNat
  have ho:=R.own (q-1).toNat
  have hs:=R.sd (q-1).toNat
  rw [List.count_nil] at hle hs
  unfold Go.Proofs.YtgfdgjkbcdmboaaGreatDoor.own at ho
  rw [List.count_nil] at ho
  constructor <;> simp only [sat,cat,cot,if_pos h]
  ·exact R.kind _
  ·exact R.d _
  ·exact R.bs _
  ·exact R.l _
  ·exact R.r _
  ·omega
  ·omega
  ·exact R.key _
 ·constructor <;> simp only [sat,cat,cot,if_neg h]
  all_goals first | rfl | (intro e;exact absurd e (by decide))
theorem Zox {cs:List (Nat×Ce)} (W:Wf cs []) (q:Int):((cat cs q).kind=0∧cat cs q=zc)∨∃(n:Nat) (T:Tre),q=(n:Int)∧1≤n∧0<cc cs (n-1)∧IsT cs n T∧cat cs q=ce cs (n-1)∧((cat cs q).kind=1∨(cat cs q).kind=2):=by
 by_cases hc:cot cs q=0
 ·have:=W.cat0 hc
  exact .inl ⟨by rw [this];rfl,this⟩
 ·obtain ⟨i,e,hi,_,hce⟩:=Zfh (cs:=cs) (h:=q) (by omega)
  obtain ⟨T,hT⟩:=Zow W i hi
  exact .inr ⟨i+1,T,by omega,by omega,hi,hT,hce,by rw [hce];exact W.kinds i hi⟩
theorem Zgf {cs:List (Nat×Ce)} (W:Wf cs []) {n m:Nat} {T:Tre} (hT:IsT cs n T) (h:cs.length≤m):T.ents.length≤m:=Nat.le_trans (Zau W T n hT).few h
set_option maxHeartbeats 1000000 in
theorem Ynl {w:World} {g:Nat} {vp vf:Value} {room:Nat} {cs:List (Nat×Ce)} {ss:List Sp} {fr:List Nat} (h:Rs w g vp vf room ss fr) (R:Rel7 cs [] [] ss) (W:Wf cs []) (h6:cs.length≤5000) (q:Int):Calls Tryz.prog 89 #[.pointer (some ⟨g,0,none⟩),.int .i64 q] w fun e w'=>e=.returned (.int .i64 ((cat cs q).sz:Int))∧Below w.heap.size w w':=by
 have HE:Hid (Calls Tryz.prog 76 #[.pointer (some ⟨g,0,none⟩),.int .i64 q] w fun e w'=>∃a c,e=.returned (.slice a (cat cs q).sz c)∧Below w.heap.size w w'):=by
  rcases Zox W q with ⟨k0,ez⟩ | ⟨n,T,rfl,n1,n2,hT,hce,hk⟩
  ·rw [ez]
   exact (Zgu h q (by rw [(Zce R W q).kind];exact k0)).mono fun e w' ⟨e1,b⟩=>⟨none,0,e1,b⟩
  ·have ok:=Zau W T n hT
   have hsz:(cat cs (n:Int)).sz=T.ents.length:=by rw [Zaj];exact ok.sz
   rw [hsz]
   refine (Zdq h T n w (Below.refl _ _) (hT.s R) (by have:=Zgf W hT h6;omega)).mono ?_
   rintro e w' ⟨v,its,e1,m1,_,o1,b⟩
   obtain ⟨a,c,rfl⟩:=Zi (Zt o1)
   rw [show its.length=T.ents.length by rw [← m1,List.length_map]] at e1
   exact ⟨a,c,e1,b⟩
 generalize (cat cs q).sz=n at HE ⊢
 clear h R W h6
 go_enter Tryz.func89,Tryz.ntmps89
 go_wp2_with (go_at_call 76;refine HE.out.mono ?_;rintro e w1 ⟨a,c,rfl,b1⟩)
 go_ret
 exact ⟨rfl,b1⟩
set_option maxHeartbeats 1000000 in
theorem Yki {w:World} {g:Nat} {vp vf:Value} {room:Nat} {cs:List (Nat×Ce)} {ss:List Sp} {fr:List Nat} (h:Rs w g vp vf room ss fr) (R:Rel7 cs [] [] ss) (W:Wf cs []) (q:Int):Calls Tryz.prog 93 #[.pointer (some ⟨g,0,none⟩),.int .i64 q] w fun e w'=>e=.returned (.int .i64 (vRt true (cot cs q) (cat cs q) q))∧Below w.heap.size w w':=by
 have c0:=h.c0
 have hS:=Zce R W q
 have hdp:dp7 (sat ss q)=vDp true (cat cs q):=by
  unfold dp7 vDp
  rw [hS.kind,hS.d,if_pos rfl]
 have HD:Hid (∀w',Below w.heap.size w w'→Calls Tryz.prog 87 #[.pointer (some ⟨g,0,none⟩),.int .i64 q] w' fun e w''=>e=.returned (.int .i64 (vDp true (cat cs q)))∧Below w'.heap.size w' w''):=fun w' hb=>by
  have:=Yho (h.grow hb) q
  rwa [hdp] at this
 have HH:=Za (Zbw h q)
 by_cases hq0:q=0
 ·subst hq0
  have HV:Hid (vRt true (cot cs 0) (cat cs 0) 0=0):=rfl
  rw [HV.out]
  clear h R W HD HH hdp hS
  go_enter Tryz.func93,Tryz.ntmps93
  go_wp2_with (go_at_call 83;refine (Zag g _ c0).mono ?_;rintro e w' ⟨rfl,hx⟩;rw [hx];clear hx w')
  go_ret
  exact ⟨rfl,Below.refl _ _⟩
 ·have hb0:(q == 0)=false:=by simp [hq0]
  by_cases hc:cot cs q=0
  ·have HV:Hid (vRt true (cot cs q) (cat cs q) q=7):=by simp [vRt,hq0,hc,Hid]
   rw [HV.out]
   have hk:(sat ss q).kind=0:=by rw [hS.kind,W.cat0 hc];rfl
   have e1:decide ((sat ss q).kind≠0)=false:=by simp [hk]
   rw [e1] at HH
   clear h R W HD hdp hS hk e1 HV hc hq0
   go_enter Tryz.func93,Tryz.ntmps93
   go_wp2_with (first
    |(go_at_call 83;refine (Zag g _ c0).mono ?_;rintro e w' ⟨rfl,hx⟩;rw [hx];clear hx w')
    |(go_at_call 84;refine HH.out.mono ?_;rintro e w' ⟨rfl,hx⟩;rw [hx];clear hx w'))
   go_ret
   exact ⟨rfl,Below.refl _ _⟩
  ·have hk: ¬(sat ss q).kind=0:=by
    rw [hS.kind]
    obtain ⟨i,e,hi,_,hce⟩:=Zfh (cs:=cs) (h:=q) (by omega)
    rw [hce]
    rcases W.kinds i hi with k | k <;> omega
   have e1:decide ((sat ss q).kind≠0)=true:=by simp [hk]
   rw [e1] at HH
   have hv:vRt true (cot cs q) (cat cs q) q=if 0<vDp true (cat cs q) then 2 else 0:=by simp [vRt,hq0,hc]
   rw [hv]
   generalize vDp true (cat cs q)=dd at HD ⊢
   clear h R W hdp hS hk e1 hc hq0 hv
   by_cases hd:0<dd
   ·rw [if_pos hd]
    go_enter Tryz.func93,Tryz.ntmps93
    go_wp2_with (first
     |(go_at_call 83;refine (Zag g _ c0).mono ?_;rintro e w' ⟨rfl,hx⟩;rw [hx];clear hx w')
     |(go_at_call 84;refine HH.out.mono ?_;rintro e w' ⟨rfl,hx⟩;rw [hx];clear hx w')
     |(go_at_call 87;refine (HD.out _ (Below.refl _ _)).mono ?_;rintro e w2 ⟨rfl,b2⟩))
    go_ret
    exact ⟨rfl,b2⟩
   ·rw [if_neg hd]
    go_enter Tryz.func93,Tryz.ntmps93
    go_wp2_with (first
     |(go_at_call 83;refine (Zag g _ c0).mono ?_;rintro e w' ⟨rfl,hx⟩;rw [hx];clear hx w')
     |(go_at_call 84;refine HH.out.mono ?_;rintro e w' ⟨rfl,hx⟩;rw [hx];clear hx w')
     |(go_at_call 87;refine (HD.out _ (Below.refl _ _)).mono ?_;rintro e w2 ⟨rfl,b2⟩))
    go_ret
    exact ⟨rfl,b2⟩
set_option maxHeartbeats 1000000 in
theorem Ykl {w:World} {g:Nat} {vp vf:Value} {room:Nat} {cs:List (Nat×Ce)} {ss:List Sp} {fr:List Nat} (h:Rs w g vp vf room ss fr) (R:Rel7 cs [] [] ss) (W:Wf cs []) (q:Int) (b:Bool) (hb:b=true↔mayP cs q):Calls Tryz.prog 168 #[.pointer (some ⟨g,0,none⟩),.int .i64 q] w fun e w'=>e=.returned (.bool b)∧Below w.heap.size w w':=by
 have hS:=Zce R W q
 have HH:=Za (Zbw h q)
 have HA:Hid (∀w',Below w.heap.size w w'→Calls Tryz.prog 107 #[.pointer (some ⟨g,0,none⟩),.int .i64 q] w' fun e w''=>e=.returned (.agg (sz7 (sat ss q)).toArray)∧Below w'.heap.size w' w''):=fun w' hb=>Zbf (h.grow hb) q
 have hf:=Zoa (Zcd h q)
 by_cases hq0:q=0
 ·have:b=true:=hb.2 (.inl hq0)
  subst this
  subst hq0
  clear h R W hS HH HA hf hb
  go_enter Tryz.func168,Tryz.ntmps168
  go_wp2
  go_ret
  exact ⟨rfl,Below.refl _ _⟩
 ·have hb0:(q == 0)=false:=by simp [hq0]
  have hbb:b=true↔0<(sat ss q).own:=by
   rw [hb,hS.own]
   unfold mayP
   constructor
   ·rintro (e | e)
    ·exact absurd e hq0
    ·omega
   ·intro e
    exact .inr (by omega)
  by_cases hk:(sat ss q).kind=0
  ·have e1:decide ((sat ss q).kind≠0)=false:=by simp [hk]
   rw [e1] at HH
   have hc:cot cs q=0:=by
    apply Classical.byContradiction
    intro hc
    obtain ⟨i,e,hi,_,hce⟩:=Zfh (cs:=cs) (h:=q) (by omega)
    rw [hS.kind,hce] at hk
    rcases W.kinds i hi with k | k <;> omega
   have:b=false:=by
    cases b with
    | false=>rfl
    | true=>
     have h1:=hbb.1 rfl
     rw [hS.own,hc] at h1
     omega
   subst this
   clear h R W hS HA hf hb hbb hk e1 hc hq0
   go_enter Tryz.func168,Tryz.ntmps168
   go_wp2_with (go_at_call 84;refine HH.out.mono ?_;rintro e w' ⟨rfl,hx⟩;rw [hx];clear hx w')
   go_ret
   exact ⟨rfl,Below.refl _ _⟩
  ·have e1:decide ((sat ss q).kind≠0)=true:=by simp [hk]
   rw [e1] at HH
   have hd:decide ((0:Int)<((sat ss q).own:Int))=b:=by
    cases b with
    | true=>
     have:=hbb.1 rfl
     simp
     omega
    | false=>
     have: ¬0<(sat ss q).own:=fun e=>by have:=hbb.2 e;cases this
     simp
     omega
   generalize (sat ss q).own=oo at hf hd
   generalize sz7 (sat ss q)=X at HA hf
   clear h R W hS hb hbb hk e1 hq0
   have hd2:decide (0<oo)=b:=by rw [← hd];simp
   go_enter Tryz.func168,Tryz.ntmps168
   go_wp2_with (first
    |(go_at_call 84;refine HH.out.mono ?_;rintro e w' ⟨rfl,hx⟩;rw [hx];clear hx w')
    |(go_at_call 107;refine (HA.out _ (Below.refl _ _)).mono ?_;rintro e w2 ⟨rfl,b2⟩))
   go_ret
   exact ⟨by first | rfl | simp [hd2],b2⟩
def ov7 (ss:List Sp) (q:Nat):List Sp:=if q=0 then ss else ss.set (q-1) { spAt ss (q-1) with own:=(spAt ss (q-1)).own-1,sd:=(spAt ss (q-1)).sd+1}
theorem Zdr (ss:List Sp) (q:Nat):(ov7 ss q).length=ss.length:=by
 unfold ov7
 split
 ·rfl
 ·exact List.length_set
theorem RT7.trans {w w1 w2:World} {g:Nat} {S S1:List Nat} {room:Nat} {ss:List Sp} {fr:List Nat} (h:Mod S w w1) (hn:New S w S1) (k:RT7 w1 g S1 room ss fr w2):RT7 w g S room ss fr w2:=by
 obtain ⟨vp,vf,r,m,n⟩:=k
 exact ⟨vp,vf,r,h.trans hn m,hn.trans h.size n⟩
theorem Zkk {w:World} {g:Nat} {vp vf:Value} {room:Nat} {ss:List Sp} {fr:List Nat} (h:Rs w g vp vf room ss fr) (q:Nat) (hq:q=0∨(spAt ss (q-1)).kind≠0∧0<(spAt ss (q-1)).own∧(spAt ss (q-1)).own+(spAt ss (q-1)).sd≤1073741824):Calls Tryz.prog 170 #[.pointer (some ⟨g,0,none⟩),.int .i64 (q:Int)] w fun e w'=>e=.returned (.tuple #[])∧RT7 w g (rsB g vp vf ss) room (ov7 ss q) fr w':=by
 by_cases q0:q=0
 ·subst q0
  refine (Zpf g w).mono ?_
  rintro e w' ⟨rfl,rfl⟩
  exact ⟨rfl,vp,vf,h,Mod.refl _ _,New.refl _ _⟩
 ·obtain ⟨h1,h2,h3⟩:(spAt ss (q-1)).kind≠0∧0<(spAt ss (q-1)).own∧(spAt ss (q-1)).own+(spAt ss (q-1)).sd≤1073741824:=by
   rcases hq with e | e
   ·exact absurd e q0
   ·exact e
  have:=Zxf h (q-1) h1 ((spAt ss (q-1)).own-1) (by omega) h3
  rw [show (((q-1:Nat):Int)+1)=(q:Int) by omega] at this
  unfold ov7
  rw [if_neg q0]
  exact this
set_option maxHeartbeats 2000000 in
theorem Yhn {w:World} {g:Nat} {vp vf:Value} {room:Nat} {ss:List Sp} {fr:List Nat} (h:Rs w g vp vf room ss fr) (d l r:Int) (hd:d<0∨256≤d):Calls Tryz.prog 129 #[.pointer (some ⟨g,0,none⟩),.int .i64 d,.int .i64 l,.int .i64 r] w fun e w'=>e=.returned (.tuple #[.int .i64 0,.int .i64 2])∧Below w.heap.size w w':=by
 have c0:=h.c0
 clear h
 by_cases h0:d<0
 ·clear hd
  go_enter Tryz.func129,Tryz.ntmps129
  go_wp2_with (go_at_call 83;refine (Zag g _ c0).mono ?_;rintro e w' ⟨rfl,hx⟩;rw [hx];clear hx w')
  go_ret2
  exact ⟨rfl,Below.refl _ _⟩
 ·have h1:256≤d:=by omega
  clear hd
  go_enter Tryz.func129,Tryz.ntmps129
  go_wp2_with (go_at_call 83;refine (Zag g _ c0).mono ?_;rintro e w' ⟨rfl,hx⟩;rw [hx];clear hx w')
  go_ret2
  exact ⟨rfl,Below.refl _ _⟩
def Fit7 (w:World) (g d:Nat) (l r:Int) (f:Bool):Prop:=∀w',Below w.heap.size w w'→Calls Tryz.prog 169 #[.pointer (some ⟨g,0,none⟩),.int .i64 (d:Int),.int .i64 l,.int .i64 r] w' fun e w''=>e=.returned (.bool f)∧Below w'.heap.size w' w''
def Ov7 (ss:List Sp) (q:Nat):Prop:=q=0∨(spAt ss (q-1)).kind≠0∧0<(spAt ss (q-1)).own∧(spAt ss (q-1)).own+(spAt ss (q-1)).sd≤1073741824
set_option maxHeartbeats 4000000 in
theorem Ztt {w:World} {g:Nat} {vp vf:Value} {room:Nat} {cs:List (Nat×Ce)} {ss:List Sp} {fr:List Nat} (h:Rs w g vp vf room ss fr) (hfr:∀s∈fr,1≤s∧s≤ss.length) (R:Rel7 cs [] [] ss) (W:Wf cs []) (d l r:Nat) (hd:d<256) (ml:mayP cs (l:Int)) (mr:mayP cs (r:Int)) (hf:Fit7 w g d l r true) (hfu: ¬Full room ss fr) (h6:ss.length+1≤65536) (ol:Ov7 ss l) (orr:Ov7 (ov7 ss l) r):Calls Tryz.prog 129 #[.pointer (some ⟨g,0,none⟩),.int .i64 (d:Int),.int .i64 (l:Int),.int .i64 (r:Int)] w fun e w'=>e=.returned (.tuple #[.int .i64 (tkH ss fr:Int),.int .i64 0])∧RT7 w g (rsB g vp vf ss) room (tkC (ov7 (ov7 ss l) r) fr (own1 (in7 d l r))) fr.dropLast w':=by
 have c0:=h.c0
 have z0: ¬(d:Int)<0:=by omega
 have z1: ¬256≤(d:Int):=by omega
 have HL:=Za (Ykl h R W (l:Int) true (by simp [ml]))
 have HR:Hid (∀w',Below w.heap.size w w'→Calls Tryz.prog 168 #[.pointer (some ⟨g,0,none⟩),.int .i64 (r:Int)] w' fun e w''=>e=.returned (.bool true)∧Below w'.heap.size w' w''):=fun w' hb=>Ykl (h.grow hb) R W (r:Int) true (by simp [mr])
 have HFU:Hid (∀w',Below w.heap.size w w'→Calls Tryz.prog 166 #[.pointer (some ⟨g,0,none⟩)] w' fun e w''=>e=.returned (.bool false)∧Below w'.heap.size w' w''):=fun w' hb=>Zkl (h.grow hb) false (by simp [hfu])
 have HF:=Za hf
 have HO1:Hid (∀w',Below w.heap.size w w'→Calls Tryz.prog 170 #[.pointer (some ⟨g,0,none⟩),.int .i64 (l:Int)] w' fun e w''=>e=.returned (.tuple #[])∧RT7 w g (rsB g vp vf ss) room (ov7 ss l) fr w''):=fun w' hb=>(Zkk (h.grow hb) l ol).mono fun e w'' ⟨e1,t⟩=>⟨e1,RT7.trans (Mod.of_below hb _) (New.refl _ _) t⟩
 have HO2:Hid (∀w',RT7 w g (rsB g vp vf ss) room (ov7 ss l) fr w'→Calls Tryz.prog 170 #[.pointer (some ⟨g,0,none⟩),.int .i64 (r:Int)] w' fun e w''=>e=.returned (.tuple #[])∧RT7 w g (rsB g vp vf ss) room (ov7 (ov7 ss l) r) fr w''):=fun w' ⟨vp1,vf1,r1,m1,n1⟩=>(Zkk r1 r orr).mono fun e w'' ⟨e1,t⟩=>⟨e1,RT7.trans m1 n1 t⟩
 have hlen:(ov7 (ov7 ss l) r).length=ss.length:=by rw [Zdr,Zdr]
 have htk:tkH (ov7 (ov7 ss l) r) fr=tkH ss fr:=by unfold tkH;rw [hlen]
 have HTK:Hid (∀w',RT7 w g (rsB g vp vf ss) room (ov7 (ov7 ss l) r) fr w'→Calls Tryz.prog 167 #[.pointer (some ⟨g,0,none⟩),.agg (sz7 (in7 d l r)).toArray] w' fun e w''=>e=.returned (.int .i64 (tkH ss fr:Int))∧RT7 w g (rsB g vp vf ss) room (tkC (ov7 (ov7 ss l) r) fr (own1 (in7 d l r))) fr.dropLast w''):=fun w' ⟨vp1,vf1,r1,m1,n1⟩=>by
  have:=Zki (Below.refl _ w') r1 (by rw [hlen];exact hfr) (in7 d l r) (Ylh d l r) (by show ¬(2:Int)=0;omega) ⟨[],Own.nil _ _⟩ (fun k hk=>by cases hk) (by rw [hlen];exact h6)
  rw [htk] at this
  exact this.mono fun e w'' ⟨e1,t,_⟩=>⟨e1,RT7.trans m1 n1 t⟩
 have HBU:=Za (Yal d l r)
 generalize sz7 (in7 d l r)=X at HTK HBU
 generalize (tkH ss fr:Int)=tk at HTK ⊢
 generalize RT7 w g (rsB g vp vf ss) room (tkC (ov7 (ov7 ss l) r) fr (own1 (in7 d l r))) fr.dropLast=PQ at HTK ⊢
 generalize RT7 w g (rsB g vp vf ss) room (ov7 (ov7 ss l) r) fr=P2 at HTK HO2
 generalize RT7 w g (rsB g vp vf ss) room (ov7 ss l) fr=P1 at HO1 HO2
 generalize (l:Int)=ly at HL HF HO1 HBU ⊢
 generalize (r:Int)=ry at HR HF HO2 HBU ⊢
 clear h R W ml mr hf hfu hlen htk ol orr hfr
 go_enter Tryz.func129,Tryz.ntmps129
 go_wp2_with (first
  |(go_at_call 83;refine (Zag g _ c0).mono ?_;rintro e w' ⟨rfl,hx⟩;rw [hx];clear hx w')
  |(go_at_call 168;first | (refine (HR.out _ b1).mono ?_;rintro e w2 ⟨rfl,b2⟩;have b3:=Zb b1 b2) | (refine HL.out.mono ?_;rintro e w1 ⟨rfl,b1⟩))
  |(go_at_call 169;refine (HF.out _ b3).mono ?_;rintro e w4 ⟨rfl,b4⟩;have b5:=Zb b3 b4)
  |(go_at_call 166;refine (HFU.out _ b5).mono ?_;rintro e w6 ⟨rfl,b6⟩;have b7:=Zb b5 b6)
  |(go_at_call 170;first | (refine (HO2.out _ p1.out).mono ?_;rintro e w9 ⟨rfl,q2⟩;have p2:=Za q2;clear q2) | (refine (HO1.out _ b7).mono ?_;rintro e w8 ⟨rfl,q1⟩;have p1:=Za q1;clear q1))
  |((with_reducible refine Zqr ?_);refine Zai _ rfl _ _ rfl _ (by rw [List.map_toArray];exact HBU.out) ?_)
  |(go_at_call 167;refine (HTK.out _ p2.out).mono ?_;rintro e w10 ⟨rfl,q3⟩;have p3:=Za q3;clear q3))
 go_ret2
 exact ⟨rfl,p3.out⟩
structure Sc (c:Ce) (o a:Nat) (s:Sp):Prop where
 kind:s.kind=c.kind
 d:s.d=c.dp
 key:c.kind=1→s.key=c.key
 bs:s.bs=c.bs
 l:s.l=c.l
 r:s.r=c.r
 own:s.own=o
 sd:s.sd=a
theorem Rel7.at {cs:List (Nat×Ce)} {ss:List Sp} (h:Rel7 cs [] [] ss) (i:Nat):Sc (ce cs i) (Go.Proofs.YtgfdgjkbcdmboaaGreatDoor.own cs [] i) (ce cs i).ab (spAt ss i):=⟨h.kind i,h.d i,h.key i,h.bs i,h.l i,h.r i,h.own i,by have:=h.sd i;rwa [List.count_nil] at this⟩
theorem Rel7.of {cs:List (Nat×Ce)} {ss:List Sp} (hl:ss.length=cs.length) (h:∀i,Sc (ce cs i) (Go.Proofs.YtgfdgjkbcdmboaaGreatDoor.own cs [] i) (ce cs i).ab (spAt ss i)):Rel7 cs [] [] ss:=⟨hl,fun i=>(h i).kind,fun i=>(h i).d,fun i=>(h i).key,fun i=>(h i).bs,fun i=>(h i).l,fun i=>(h i).r,fun i=>(h i).own,fun i=>by rw [List.count_nil];exact (h i).sd⟩
theorem Rel7.new:Rel7 [] [] [] []:=Rel7.of rfl fun i=>⟨rfl,rfl,fun e=>absurd e (by show ¬(0:Int)=1;omega),rfl,rfl,rfl,rfl,rfl⟩
theorem Zgo {α β:Type} {xs:List α} {ys:List β} (fr:List Nat) (h:xs.length=ys.length):tkH xs fr=tkH ys fr:=by
 unfold tkH
 rw [h]
theorem Zwf (ss:List Sp) (j:Nat) (s:Sp):spAt (ss++[s]) j=if j=ss.length then s else spAt ss j:=by
 unfold spAt
 by_cases e:j=ss.length
 ·subst e
  simp
 ·rw [if_neg e]
  by_cases hl:j<ss.length
  ·rw [List.getElem?_append_left hl]
  ·rw [List.getElem?_eq_none (by simp;omega),List.getElem?_eq_none (by omega)]
theorem tk7 {ss:List Sp} {fr:List Nat} (hF:∀s∈fr,1≤s∧s≤ss.length) (x:Sp):1≤tkH ss fr∧(tkC ss fr x).length=max ss.length (tkH ss fr-1+1)∧∀j,spAt (tkC ss fr x) j=if j=tkH ss fr-1 then x else spAt ss j:=by
 rcases Zes ss fr with ⟨s,fr0,rfl,e1,e2⟩ | ⟨rfl,e1,e2⟩
 ·obtain ⟨h1,h2⟩:=hF s (by simp)
  rw [e1,e2]
  exact ⟨h1,by simp;omega,fun j=>Zdv ss _ j x (by omega)⟩
 ·rw [e1,e2]
  exact ⟨by omega,by simp,fun j=>Zwf ss j x⟩
theorem Zyd (ss:List Sp) (q:Nat) (hq:q-1<ss.length∨q=0) (j:Nat):spAt (ov7 ss q) j=if q=j+1 then { spAt ss j with own:=(spAt ss j).own-1,sd:=(spAt ss j).sd+1} else spAt ss j:=by
 unfold ov7
 by_cases q0:q=0
 ·rw [if_pos q0,if_neg (by omega)]
 ·rw [if_neg q0,Zdv ss _ j _ (by omega)]
  by_cases e:j=q-1
  ·rw [if_pos e,if_pos (by omega),e]
  ·rw [if_neg e,if_neg (by omega)]
theorem FrOk.slots {cs:List (Nat×Ce)} {fr:List Nat} {ss:List Sp} (h:FrOk cs fr) (hl:ss.length=cs.length):∀s∈fr,1≤s∧s≤ss.length:=fun s hs=>by
 obtain ⟨h1,h2,_⟩:=h s hs
 exact ⟨h1,by omega⟩
theorem Rel7.leaf {cs:List (Nat×Ce)} {fr:List Nat} {ss:List Sp} (h:Rel7 cs [] [] ss) (hF:FrOk cs fr) (D K:List Int) (v v':Value) (bs:List Int):Rel7 (tkC cs fr (1,lfC D K v bs)) [] [] (tkC ss fr (own1 (lf7 K v' bs))):=by
 obtain ⟨t1,tk⟩:=Zgn hF (1,lfC D K v bs)
 have he:=Zgo fr h.len
 obtain ⟨_,l2,at2⟩:=tk7 (hF.slots h.len) (own1 (lf7 K v' bs))
 refine Rel7.of (by rw [l2,tk.len,h.len,he]) fun i=>?_
 have hown:Go.Proofs.YtgfdgjkbcdmboaaGreatDoor.own (tkC cs fr (1,lfC D K v bs)) [] i=if i=tkH cs fr-1 then 1 else Go.Proofs.YtgfdgjkbcdmboaaGreatDoor.own cs [] i:=by
  unfold Go.Proofs.YtgfdgjkbcdmboaaGreatDoor.own
  rw [tk.cc,tk.ce]
  split
  ·simp [lfC]
  ·rfl
 rw [at2,tk.ce,hown,he]
 by_cases e:i=tkH cs fr-1
 ·rw [if_pos e,if_pos e,if_pos e]
  exact ⟨rfl,rfl,fun _=>rfl,rfl,rfl,rfl,rfl,rfl⟩
 ·rw [if_neg e,if_neg e,if_neg e]
  exact h.at i
theorem Rel7.more {cs:List (Nat×Ce)} {ss:List Sp} (h:Rel7 cs [] [] ss) (W:Wf cs []) {i:Nat} (hi:0<cc cs i):Rel7 (moreC cs i) [] [] (ss.set i { spAt ss i with own:=(spAt ss i).own+1}):=by
 have hl:=Zbd hi
 refine Rel7.of (by rw [List.length_set,Zjc,h.len]) fun j=>?_
 have hle:=W.le j
 rw [List.count_nil] at hle
 have hown:Go.Proofs.YtgfdgjkbcdmboaaGreatDoor.own (moreC cs i) [] j=Go.Proofs.YtgfdgjkbcdmboaaGreatDoor.own cs [] j+(if i=j then 1 else 0):=by
  unfold Go.Proofs.YtgfdgjkbcdmboaaGreatDoor.own
  rw [Zfa hi,Zda,List.count_nil]
  omega
 rw [Zdv ss i j _ (by rw [h.len];exact hl),Zda,hown]
 have ha:=h.at j
 by_cases e:j=i
 ·subst e
  rw [if_pos rfl,if_pos rfl]
  exact ⟨ha.kind,ha.d,ha.key,ha.bs,ha.l,ha.r,by show _+1=_;rw [ha.own],ha.sd⟩
 ·rw [if_neg e,if_neg (by omega)]
  exact ha
theorem mayP.inn {cs:List (Nat×Ce)} {ss:List Sp} (R:Rel7 cs [] [] ss) {q:Nat} (m:mayP cs (q:Int)):q-1<ss.length∨q=0:=by
 rcases m.side with e | ⟨_,e2,_⟩
 ·exact .inr e
 ·exact .inl (by rw [R.len];exact Zbd e2)
theorem Rel7.inner {cs cs':List (Nat×Ce)} {fr:List Nat} {ss:List Sp} {d l r:Nat} (h:Rel7 cs [] [] ss) (W:Wf cs []) (W':Wf cs' []) (hF:FrOk cs fr) (hml:mayP cs (l:Int)) (hmr:mayP cs (r:Int)) (hI:InnR cs fr d l r cs'):Rel7 cs' [] [] (tkC (ov7 (ov7 ss l) r) fr (own1 (in7 d l r))):=by
 obtain ⟨ho,_,_,hv,h1,_,_,_,_⟩:=Znf W W' hF hml hmr hI
 obtain ⟨KF,hKF,rfl⟩:=hI
 obtain ⟨X,hX⟩:∃X,X=inC (inD (sdD cs l) (sdD cs r)) KF ((sdC cs l).sz+(sdC cs r).sz) d l r:=⟨_,rfl⟩
 rw [← hX] at W' ho ⊢
 obtain ⟨t1,tk⟩:=Zgn hF (1,X)
 have he:=Zgo fr h.len
 have ln:(ov7 (ov7 ss l) r).length=ss.length:=by rw [Zdr,Zdr]
 have hb:=Zgo (xs:=ov7 (ov7 ss l) r) (ys:=ss) fr ln
 obtain ⟨_,l2,at2⟩:=tk7 (ss:=ov7 (ov7 ss l) r) (fr:=fr) (by rw [ln];exact hF.slots h.len) (own1 (in7 d l r))
 have u1:=Zcl (tkC cs fr (1,X)) l
 have uu:=u1.trans (Zcl (upA (tkC cs fr (1,X)) l) r)
 have sl:∀q:Nat,mayP cs (q:Int)→(q≠0→0<cc cs (q-1))∧(q-1<(tkC cs fr (1,X)).length∨q=0):=fun q m=>by
  rcases m.side with e | ⟨e1,e2,_⟩
  ·exact ⟨fun q0=>absurd e q0,.inr e⟩
  ·have:=Zbd e2
   rw [tk.len]
   exact ⟨fun _=>e2,.inl (by omega)⟩
 obtain ⟨l1,l3⟩:=sl l hml
 obtain ⟨r1,r3⟩:=sl r hmr
 have hab:∀i,(ce (upA (upA (tkC cs fr (1,X)) l) r) i).ab=(ce (tkC cs fr (1,X)) i).ab+(if l=i+1 then 1 else 0)+(if r=i+1 then 1 else 0):=fun i=>by
  rw [Zff _ r i (by rw [u1.len];exact r3),Zff _ l i l3]
 have nv:∀q:Nat,(q≠0→0<cc cs (q-1))→q≠tkH cs fr:=fun q hq e=>by
  have h1:=hq (by omega)
  rw [e,tk.vac] at h1
  omega
 refine Rel7.of (by rw [l2,uu.len,tk.len,ln,h.len,hb,he]) fun i=>?_
 have hoi:=ho i
 have hai:=hab i
 have hci:=uu.core i
 have hsi:=at2 i
 rw [hb,he] at hsi
 rw [tk.ce] at hai hci
 by_cases e:i=tkH cs fr-1
 ·have e2:tkH cs fr=i+1:=by omega
  have n1: ¬l=i+1:=by rw [← e2];exact nv l l1
  have n2: ¬r=i+1:=by rw [← e2];exact nv r r1
  rw [if_pos e] at hsi hai hci
  rw [if_neg n1,if_neg n2] at hai hoi
  have hv2:Go.Proofs.YtgfdgjkbcdmboaaGreatDoor.own cs [] i=0:=by
   unfold Go.Proofs.YtgfdgjkbcdmboaaGreatDoor.own
   rw [e,tk.vac]
   omega
  rw [if_pos e2,hv2] at hoi
  rw [hsi]
  have xa:X.ab=0:=by rw [hX];rfl
  refine ⟨?_,?_,fun k=>?_,?_,?_,?_,by show (1:Nat)=_;omega,by show (0:Nat)=_;rw [hai];show 0=X.ab+0+0;omega⟩
  ·rw [hci,hX];rfl
  ·rw [hci,hX];rfl
  ·rw [hci,hX] at k
   exact absurd k (by show ¬(2:Int)=1;omega)
  ·rw [hci,hX];rfl
  ·rw [hci,hX];rfl
  ·rw [hci,hX];rfl
 ·rw [if_neg e] at hsi hai hci
  rw [if_neg (show ¬tkH cs fr=i+1 by omega)] at hoi
  rw [Zyd _ r (by rw [Zdr];exact hmr.inn h),Zyd _ l (hml.inn h)] at hsi
  have ha:=h.at i
  have ho1:=ha.own
  have hs1:=ha.sd
  rw [hsi]
  by_cases el:l=i+1
  ·by_cases er:r=i+1
   ·rw [if_pos el] at hai hoi
    rw [if_pos er] at hai hoi
    rw [if_pos er,if_pos el]
    refine ⟨?_,?_,fun k=>?_,?_,?_,?_,?_,?_⟩
    ·rw [hci];exact ha.kind
    ·rw [hci];exact ha.d
    ·rw [hci] at k ⊢;exact ha.key k
    ·rw [hci];exact ha.bs
    ·rw [hci];exact ha.l
    ·rw [hci];exact ha.r
    ·show _-1-1=_;omega
    ·show _+1+1=_;omega
   ·rw [if_pos el] at hai hoi
    rw [if_neg er] at hai hoi
    rw [if_neg er,if_pos el]
    refine ⟨?_,?_,fun k=>?_,?_,?_,?_,?_,?_⟩
    ·rw [hci];exact ha.kind
    ·rw [hci];exact ha.d
    ·rw [hci] at k ⊢;exact ha.key k
    ·rw [hci];exact ha.bs
    ·rw [hci];exact ha.l
    ·rw [hci];exact ha.r
    ·show _-1=_;omega
    ·show _+1=_;omega
  ·by_cases er:r=i+1
   ·rw [if_neg el] at hai hoi
    rw [if_pos er] at hai hoi
    rw [if_pos er,if_neg el]
    refine ⟨?_,?_,fun k=>?_,?_,?_,?_,?_,?_⟩
    ·rw [hci];exact ha.kind
    ·rw [hci];exact ha.d
    ·rw [hci] at k ⊢;exact ha.key k
    ·rw [hci];exact ha.bs
    ·rw [hci];exact ha.l
    ·rw [hci];exact ha.r
    ·show _-1=_;omega
    ·show _+1=_;omega
   ·rw [if_neg el] at hai hoi
    rw [if_neg er] at hai hoi
    rw [if_neg er,if_neg el]
    refine ⟨?_,?_,fun k=>?_,?_,?_,?_,by omega,by omega⟩
    ·rw [hci];exact ha.kind
    ·rw [hci];exact ha.d
    ·rw [hci] at k ⊢;exact ha.key k
    ·rw [hci];exact ha.bs
    ·rw [hci];exact ha.l
    ·rw [hci];exact ha.r
theorem Ykw {cs:List (Nat×Ce)} {ss:List Sp} (R:Rel7 cs [] [] ss) (W:Wf cs []) (hM:∀i,cc cs i≤1073741824) {l:Nat} (ml:mayP cs (l:Int)):Ov7 ss l:=by
 rcases ml.side with e | ⟨_,e2,e3⟩
 ·exact .inl e
 ·have hle:=W.le (l-1)
  have h1:=R.own (l-1)
  have h2:=R.sd (l-1)
  have hm:=hM (l-1)
  rw [List.count_nil] at hle h2
  unfold Go.Proofs.YtgfdgjkbcdmboaaGreatDoor.own at h1
  rw [List.count_nil] at h1
  exact .inr ⟨(R.inn W _).2 e2,by omega,by omega⟩
theorem Yna {cs:List (Nat×Ce)} {ss:List Sp} (R:Rel7 cs [] [] ss) (W:Wf cs []) (hM:∀i,cc cs i≤1073741824) {l r:Nat} (ml:mayP cs (l:Int)) (mr:mayP cs (r:Int)) (hne:l≠0→l≠r):Ov7 (ov7 ss l) r:=by
 rcases Ykw R W hM mr with e | e
 ·exact .inl e
 ·by_cases r0:r=0
  ·exact .inl r0
  ·refine .inr ?_
   rw [Zyd _ l (ml.inn R),if_neg (by intro e2;exact hne (by omega) (by omega))]
   exact e
def SamE (es:List Ent) (d:Nat):Prop:=∀a∈es,∀b∈es,∀j,j<d→kb a.1 j=kb b.1 j
end Go.Proofs.YtgfdgjkbcdmboaaGreatDoor
