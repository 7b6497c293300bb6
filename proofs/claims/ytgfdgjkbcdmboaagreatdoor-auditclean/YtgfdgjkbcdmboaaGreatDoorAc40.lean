/- The document's put: Fits, AtHand, wrong, Other, Made, as contracts, over its store said in the program's cells. -/
import Derived.Test.YtgfdgjkbcdmboaaGreatDoorAc39
namespace Go.Proofs.YtgfdgjkbcdmboaaGreatDoor
set_option maxRecDepth 20000
open Go.RowKit
section
variable {w0 w:World} {S:List Nat} {q room:Nat} {cs:List (Nat×Ce)} {fr:List Nat}
theorem Zmg (h:Hr w0 S w q room cs fr) (x:Int):Calls Tryz.prog 48 #[.pointer (some ⟨q,0,none⟩),.int .i64 x] w fun e w'=>e=.returned (.int .u8 (cat cs x).kind)∧Below w.heap.size w w':=h.tell fun _ _ _ s R=>by
 have:=Ykn s x
 rwa [(Zce R h.wf x).kind] at this
theorem Yis (h:Hr w0 S w q room cs fr) (x:Int):Calls Tryz.prog 91 #[.pointer (some ⟨q,0,none⟩),.int .i64 x] w fun e w'=>e=.returned (.int .i64 ((cot cs x-(cat cs x).ab:Nat):Int))∧Below w.heap.size w w':=h.tell fun _ _ _ s R=>by
 have:=Yko s x
 rwa [(Zce R h.wf x).own] at this
theorem Zsf (h:Hr w0 S w q room cs fr) (x:Int):Calls Tryz.prog 67 #[.pointer (some ⟨q,0,none⟩),.int .i64 x] w fun e w'=>e=.returned (.tuple #[.int .i64 ((cat cs x).l:Int),.int .i64 ((cat cs x).r:Int)])∧Below w.heap.size w w':=h.tell fun _ _ _ s R=>by
 have:=Yhh s x
 rwa [(Zce R h.wf x).l,(Zce R h.wf x).r] at this
theorem Yip (h:Hr w0 S w q room cs fr) (x:Int):Calls Tryz.prog 93 #[.pointer (some ⟨q,0,none⟩),.int .i64 x] w fun e w'=>e=.returned (.int .i64 (vRt true (cot cs x) (cat cs x) x))∧Below w.heap.size w w':=h.tell fun _ _ _ s R=>Yki s R h.wf x
theorem Zyy (h:Hr w0 S w q room cs fr) (h5:room≤5000) (x:Int):Calls Tryz.prog 95 #[.pointer (some ⟨q,0,none⟩),.int .i64 x] w fun e w'=>e=.returned (.agg (B (cat cs x).key))∧Below w.heap.size w w':=h.tell fun _ _ _ s R=>Ymy s R h.wf (by have:=h.inv.lenC;omega) x
theorem Ylj (h:Hr w0 S w q room cs fr) (h5:room≤5000):Calls Tryz.prog 37 #[.pointer (some ⟨q,0,none⟩)] w fun e w'=>e=.returned (.int .i64 (noc cs:Int))∧Below w.heap.size w w':=h.tell fun _ _ _ s R=>Ymx s R h.wf (by have:=h.inv.lenC;omega)
theorem Yiq (h:Hr w0 S w q room cs fr):Calls Tryz.prog 39 #[.pointer (some ⟨q,0,none⟩)] w fun e w'=>e=.returned (.int .i64 (room:Int))∧Below w.heap.size w w':=h.tell fun _ _ _ s R=>(Ykj s).mono fun e w' ⟨e1,e2⟩=>⟨e1,by rw [e2];exact Below.refl _ _⟩
theorem Zyx (h:Hr w0 S w q room cs fr):Calls Tryz.prog 83 #[.pointer (some ⟨q,0,none⟩)] w fun e w'=>e=.returned (.bool false)∧Below w.heap.size w w':=h.tell fun _ _ _ s R=>(Zag q w s.c0).mono fun e w' ⟨e1,e2⟩=>⟨e1,by rw [e2];exact Below.refl _ _⟩
theorem Hr.sizes (h:Hr w0 S w q room cs fr):noc cs≤room∧room≤65536∧cs.length≤room:=by
 have h1:=h.inv.sum
 have h2:=h.inv.len
 have h3:=h.inv.r2
 rw [List.length_map] at h1 h2
 unfold noc
 omega
set_option maxHeartbeats 400000 in
theorem Zrn (h:Hr w0 S w q room cs fr) (h5:room≤5000) (j:Int):Calls Tryz.prog 56 #[.pointer (some ⟨q,0,none⟩),.int .i64 j] w fun e w'=>e=.returned (.bool (fitsN (noc cs) room j))∧Below w.heap.size w w':=by
 have HR:=Za (Zyx h)
 have HO:Hid (∀w',Below w.heap.size w w'→Calls Tryz.prog 37 #[.pointer (some ⟨q,0,none⟩)] w' fun e w''=>e=.returned (.int .i64 (noc cs:Int))∧Below w'.heap.size w' w''):=fun w' hb=>Ylj (h.grow hb) h5
 have HM:Hid (∀w',Below w.heap.size w w'→Calls Tryz.prog 39 #[.pointer (some ⟨q,0,none⟩)] w' fun e w''=>e=.returned (.int .i64 (room:Int))∧Below w'.heap.size w' w''):=fun w' hb=>Yiq (h.grow hb)
 obtain ⟨h1,h2,_⟩:=h.sizes
 generalize noc cs=n at HO h1 ⊢
 clear h
 by_cases j0:j<0
 ·rw [show fitsN n room j=false by simp [fitsN];omega]
  have j0': ¬0≤j:=by omega
  clear h1 h2 h5
  go_enter Tryz.func56,Tryz.ntmps56
  go_wp2_with (go_at_call 83;refine HR.out.mono ?_;rintro e w1 ⟨rfl,b1⟩;have HB:=Za b1;clear b1)
  go_ret
  exact ⟨rfl,HB.out⟩
 by_cases j1:64<j
 ·rw [show fitsN n room j=false by simp [fitsN];omega]
  have j0':0≤j:=by omega
  have j1': ¬j≤64:=by omega
  clear h1 h2 h5
  go_enter Tryz.func56,Tryz.ntmps56
  go_wp2_with (go_at_call 83;refine HR.out.mono ?_;rintro e w1 ⟨rfl,b1⟩;have HB:=Za b1;clear b1)
  go_ret
  exact ⟨rfl,HB.out⟩
 obtain ⟨k,rfl⟩:∃k:Nat,j=(k:Int):=⟨j.toNat,by omega⟩
 have hk:k≤64:=by omega
 have HV:Hid (fitsN n room (k:Int)=decide (((n:Int)+258 * (k:Int))≤(room:Int))):=by
  show _=_
  unfold fitsN
  congr 1
  apply propext
  constructor
  ·exact fun q=>q.2.2
  ·exact fun q=>⟨by omega,by omega,q⟩
 have w1:wrap64 (258 * (k:Int))=258 * (k:Int):=Go.IntWalk.wrap64_in _ (by omega)
 have w2:wrap64 ((n:Int)+258 * (k:Int))=(n:Int)+258 * (k:Int):=Go.IntWalk.wrap64_in _ (by omega)
 have j2:(k:Int)≤64:=by omega
 have j3:(0:Int)≤(k:Int):=by omega
 rw [HV.out]
 clear HV j0 j1 h1 h2 h5
 go_enter Tryz.func56,Tryz.ntmps56
 go_wp2_with (first
  |(go_at_call 83;refine HR.out.mono ?_;rintro e w1 ⟨rfl,b1⟩;have HB:=Za b1;clear b1)
  |(go_at_call 37;refine (HO.out _ HB.out).mono ?_;rintro e w2 ⟨rfl,b2⟩;replace HB:=Za (Zb HB.out b2);clear b2)
  |(go_at_call 39;refine (HM.out _ HB.out).mono ?_;rintro e w3 ⟨rfl,b3⟩;replace HB:=Za (Zb HB.out b3);clear b3))
 go_ret
 exact ⟨rfl,HB.out⟩
set_option maxHeartbeats 400000 in
theorem Zrq (V:Hr w0 S w q room cs fr) (h:Int):Calls Tryz.prog 45 #[.pointer (some ⟨q,0,none⟩),.int .i64 h] w fun e w'=>e=.returned (.int .i64 (vAh true (cot cs h) (cat cs h) h))∧Below w.heap.size w w':=by
 have HR:=Za (Yip V h)
 have HH:Hid (∀w',Below w.heap.size w w'→Calls Tryz.prog 91 #[.pointer (some ⟨q,0,none⟩),.int .i64 h] w' fun e w''=>e=.returned (.int .i64 ((cot cs h-(cat cs h).ab:Nat):Int))∧Below w'.heap.size w' w''):=fun w' hb=>Yis (V.grow hb) h
 unfold vAh
 generalize vRt true (cot cs h) (cat cs h) h=r at HR ⊢
 generalize cot cs h-(cat cs h).ab=m at HH ⊢
 clear V
 by_cases r0:r=0
 ·subst r0
  rw [if_pos rfl]
  by_cases h0:h=0
  ·subst h0
   rw [if_neg (by simp)]
   go_enter Tryz.func45,Tryz.ntmps45
   go_wp2_with (first
    |(go_at_call 93;refine HR.out.mono ?_;rintro e w1 ⟨rfl,b1⟩;have HB:=Za b1;clear b1))
   go_ret
   exact ⟨rfl,HB.out⟩
  ·by_cases m0:m=0
   ·subst m0
    rw [if_pos ⟨h0,rfl⟩]
    go_enter Tryz.func45,Tryz.ntmps45
    go_wp2_with (first
     |(go_at_call 93;refine HR.out.mono ?_;rintro e w1 ⟨rfl,b1⟩;have HB:=Za b1;clear b1)
     |(go_at_call 91;refine (HH.out _ HB.out).mono ?_;rintro e w2 ⟨rfl,b2⟩;replace HB:=Za (Zb HB.out b2);clear b2))
    go_ret
    exact ⟨rfl,HB.out⟩
   ·rw [if_neg (fun e=>m0 e.2)]
    have m1: ¬(m:Int)=0:=by omega
    have m2:((m:Int) == 0)=false:=by simpa using m1
    have m3:(h != 0)=true:=by simpa using h0
    go_enter Tryz.func45,Tryz.ntmps45
    go_wp2_with (first
     |(go_at_call 93;refine HR.out.mono ?_;rintro e w1 ⟨rfl,b1⟩;have HB:=Za b1;clear b1)
     |(go_at_call 91;refine (HH.out _ HB.out).mono ?_;rintro e w2 ⟨rfl,b2⟩;replace HB:=Za (Zb HB.out b2);clear b2))
    go_ret
    exact ⟨rfl,HB.out⟩
 ·rw [if_neg r0]
  go_enter Tryz.func45,Tryz.ntmps45
  go_wp2_with (first
   |(go_at_call 93;refine HR.out.mono ?_;rintro e w1 ⟨rfl,b1⟩;have HB:=Za b1;clear b1))
  go_ret
  exact ⟨rfl,HB.out⟩
set_option maxHeartbeats 400000 in
theorem Zgs (V:Hr w0 S w q room cs fr) (h:Int) (a:Option Addr) (n c:Nat):Calls Tryz.prog 190 #[.pointer (some ⟨q,0,none⟩),.int .i64 h,.slice a n c] w fun e w'=>e=.returned (.int .i64 (vRf true (cot cs h) (cat cs h) h n))∧Below w.heap.size w w':=by
 have HR:=Za (Zyx V)
 have HA:Hid (∀w',Below w.heap.size w w'→Calls Tryz.prog 45 #[.pointer (some ⟨q,0,none⟩),.int .i64 h] w' fun e w''=>e=.returned (.int .i64 (vAh true (cot cs h) (cat cs h) h))∧Below w'.heap.size w' w''):=fun w' hb=>Zrq (V.grow hb) h
 unfold vRf
 rw [if_pos rfl]
 generalize vAh true (cot cs h) (cat cs h) h=r at HA ⊢
 clear V
 by_cases hn:1024<n
 ·have hn1:(1024:Int)<(n:Int):=by omega
  rw [if_pos hn]
  clear hn
  go_enter Tryz.func190,Tryz.ntmps190
  go_wp2_with (first
   |(go_at_call 83;refine HR.out.mono ?_;rintro e w1 ⟨rfl,b1⟩;have HB:=Za b1;clear b1))
  go_ret
  exact ⟨rfl,HB.out⟩
 ·have hn1: ¬(1024:Int)<(n:Int):=by omega
  rw [if_neg hn]
  clear hn
  go_enter Tryz.func190,Tryz.ntmps190
  go_wp2_with (first
   |(go_at_call 83;refine HR.out.mono ?_;rintro e w1 ⟨rfl,b1⟩;have HB:=Za b1;clear b1)
   |(go_at_call 45;refine (HA.out _ HB.out).mono ?_;rintro e w2 ⟨rfl,b2⟩;replace HB:=Za (Zb HB.out b2);clear b2))
  go_ret
  exact ⟨rfl,HB.out⟩
set_option maxHeartbeats 400000 in
theorem Yhm (V:Hr w0 S w q room cs fr) (K:List Int) (hK:Key K) (d:Nat) (hd:d<256) (h:Int):Calls Tryz.prog 49 #[.pointer (some ⟨q,0,none⟩),.agg (B K),.int .i64 (d:Int),.int .i64 h] w fun e w'=>e=.returned (.int .i64 ((if kb K d=1 then (cat cs h).l else (cat cs h).r:Nat):Int))∧Below w.heap.size w w':=by
 have HSd:Hid (∀w',Below w.heap.size w w'→Calls Tryz.prog 67 #[.pointer (some ⟨q,0,none⟩),.int .i64 h] w' fun e w''=>e=.returned (.tuple #[.int .i64 ((cat cs h).l:Int),.int .i64 ((cat cs h).r:Int)])∧Below w'.heap.size w' w''):=fun w' hb=>Zsf (V.grow hb) h
 have HBt:Hid (∀w',Calls Tryz.prog 106 #[.agg (B K),.int .i64 (d:Int)] w' fun e w''=>e=.returned (.int .i64 (kb K d))∧Below w'.heap.size w' w''):=fun w'=>Zfo K d w' hK hd
 have HPS:Hid ((Tryz.prog.info? 34).map (·.size)=some (B K).size):=by show _=_;rw [Zm,hK.1];exact Zj
 generalize (cat cs h).l=l at HSd ⊢
 generalize (cat cs h).r=r at HSd ⊢
 generalize kb K d=kd at HBt ⊢
 clear V hK
 by_cases k1:kd=1
 ·subst k1
  rw [if_pos rfl]
  go_enter Tryz.func49,Tryz.ntmps49
  go_wp2_with (first
   |((with_reducible refine Zo 5 ?_);refine Zc _ rfl _ _ rfl _ rfl ?_;intro w1 b5 hg5 hl5 B5 q5;have HB5:=Za B5;have HQ:=Za q5;clear hg5 hl5 B5 q5)
   |(go_at_call 67;refine (HSd.out _ HQ.out).mono ?_;rintro e w2 ⟨rfl,b2⟩;replace HQ:=Za (Zb HQ.out b2);have HB6:=Za (HB5.out.grow b2);clear b2)
   |((with_reducible refine Zk 17 5 ?_);refine Zh _ rfl _ _ rfl b5 _ rfl HB6.out _ _ Tryz.underlying34 HPS.out ?_)
   |(go_at_call 106;refine (HBt.out _).mono ?_;rintro e w3 ⟨rfl,b3⟩;replace HQ:=Za (Zb HQ.out b3);clear b3))
  go_ret
  exact ⟨rfl,HQ.out⟩
 ·rw [if_neg k1]
  go_enter Tryz.func49,Tryz.ntmps49
  go_wp2_with (first
   |((with_reducible refine Zo 5 ?_);refine Zc _ rfl _ _ rfl _ rfl ?_;intro w1 b5 hg5 hl5 B5 q5;have HB5:=Za B5;have HQ:=Za q5;clear hg5 hl5 B5 q5)
   |(go_at_call 67;refine (HSd.out _ HQ.out).mono ?_;rintro e w2 ⟨rfl,b2⟩;replace HQ:=Za (Zb HQ.out b2);have HB6:=Za (HB5.out.grow b2);clear b2)
   |((with_reducible refine Zk 17 5 ?_);refine Zh _ rfl _ _ rfl b5 _ rfl HB6.out _ _ Tryz.underlying34 HPS.out ?_)
   |(go_at_call 106;refine (HBt.out _).mono ?_;rintro e w3 ⟨rfl,b3⟩;replace HQ:=Za (Zb HQ.out b3);clear b3))
  go_ret
  exact ⟨rfl,HQ.out⟩
set_option maxHeartbeats 1000000 in
theorem Ykm (V0:Hr w0 S w q room cs fr) (h5:room≤5000) (K:List Int) (hK:Key K) (d node other:Nat) (hd:d<256) (hml:mayP cs (tl K d node other:Int)) (hmr:mayP cs (tr K d node other:Int)) (u:Bool) (hu:u=true↔Und (sdC cs (tl K d node other)).key (sdC cs (tr K d node other)).key (d:Int)) (hf:fitP d (sdC cs (tl K d node other)) (sdC cs (tr K d node other)) u=true) (hfu: ¬Full room cs fr) {cs':List (Nat×Ce)} (hI:InnR cs fr d (tl K d node other) (tr K d node other) cs'):Calls Tryz.prog 115 #[.pointer (some ⟨q,0,none⟩),.agg (B K),.int .i64 (d:Int),.int .i64 (node:Int),.int .i64 (other:Int)] w fun e w'=>e=.returned (.int .i64 (tkH cs fr:Int))∧Hr w0 S w' q room cs' fr.dropLast:=by
 have HIn:Hid (∀w',Below w.heap.size w w'→Calls Tryz.prog 129 #[.pointer (some ⟨q,0,none⟩),.int .i64 (d:Int),.int .i64 (tl K d node other:Int),.int .i64 (tr K d node other:Int)] w' fun e w''=>e=.returned (.tuple #[.int .i64 (tkH cs fr:Int),.int .i64 0])∧Hr w0 S w'' q room cs' fr.dropLast):=fun w' hb=>Ydz (V0.grow hb) h5 d _ _ hd hml hmr u hu hf hfu hI
 have HBt:Hid (∀w',Calls Tryz.prog 106 #[.agg (B K),.int .i64 (d:Int)] w' fun e w''=>e=.returned (.int .i64 (kb K d))∧Below w'.heap.size w' w''):=fun w'=>Zfo K d w' hK hd
 have HPS:Hid ((Tryz.prog.info? 34).map (·.size)=some (B K).size):=by show _=_;rw [Zm,hK.1];exact Zj
 obtain ⟨R,hR⟩:∃R:World→Prop,R=fun w''=>Hr w0 S w'' q room cs' fr.dropLast:=⟨_,rfl⟩
 replace HIn:Hid (∀w',Below w.heap.size w w'→Calls Tryz.prog 129 #[.pointer (some ⟨q,0,none⟩),.int .i64 (d:Int),.int .i64 (tl K d node other:Int),.int .i64 (tr K d node other:Int)] w' fun e w''=>e=.returned (.tuple #[.int .i64 (tkH cs fr:Int),.int .i64 0])∧R w''):=by rw [hR];exact HIn
 have HPost:Hid (∀w'',R w''→Hr w0 S w'' q room cs' fr.dropLast):=fun w'' h=>by rw [hR] at h;exact h
 unfold tl tr at HIn
 generalize (tkH cs fr:Int)=th at HIn ⊢
 generalize kb K d=kd at HBt HIn
 clear V0 hK hml hmr hu hf hfu hI hR
 by_cases k1:kd=1
 ·subst k1
  rw [if_pos rfl,if_pos rfl] at HIn
  go_enter Tryz.func115,Tryz.ntmps115
  go_wp2_with (first
   |((with_reducible refine Zo 6 ?_);refine Zc _ rfl _ _ rfl _ rfl ?_;intro w1 b5 hg5 hl5 B5 q5;have HB5:=Za B5;have HQ:=Za q5;clear hg5 hl5 B5 q5)
   |((with_reducible refine Zk 17 6 ?_);refine Zh _ rfl _ _ rfl b5 _ rfl HB5.out _ _ Tryz.underlying34 HPS.out ?_)
   |(go_at_call 106;refine (HBt.out _).mono ?_;rintro e w3 ⟨rfl,b3⟩;replace HQ:=Za (Zb HQ.out b3);clear b3)
   |(go_at_call 129;refine (HIn.out _ HQ.out).mono ?_;rintro e w4 ⟨rfl,r4⟩;have HR4:=Za r4;clear r4))
  go_ret
  exact ⟨rfl,HPost.out _ HR4.out⟩
 ·rw [if_neg k1,if_neg k1] at HIn
  go_enter Tryz.func115,Tryz.ntmps115
  go_wp2_with (first
   |((with_reducible refine Zo 6 ?_);refine Zc _ rfl _ _ rfl _ rfl ?_;intro w1 b5 hg5 hl5 B5 q5;have HB5:=Za B5;have HQ:=Za q5;clear hg5 hl5 B5 q5)
   |((with_reducible refine Zk 17 6 ?_);refine Zh _ rfl _ _ rfl b5 _ rfl HB5.out _ _ Tryz.underlying34 HPS.out ?_)
   |(go_at_call 106;refine (HBt.out _).mono ?_;rintro e w3 ⟨rfl,b3⟩;replace HQ:=Za (Zb HQ.out b3);clear b3)
   |(go_at_call 129;refine (HIn.out _ HQ.out).mono ?_;rintro e w4 ⟨rfl,r4⟩;have HR4:=Za r4;clear r4))
  go_ret
  exact ⟨rfl,HPost.out _ HR4.out⟩
end
end Go.Proofs.YtgfdgjkbcdmboaaGreatDoor
namespace Go.Proofs.YtgfdgjkbcdmboaaGreatDoor
set_option maxRecDepth 20000
open Go.RowKit
def WyPost9 (hs:List Nat) (fin:Nat) (w:World) (e:Ending) (w':World):Prop:=∃a c,e=.returned (.tuple #[.slice a hs.length c,.int .i64 (fin:Int)])∧w'.ownsRow w.heap.size 3 1 (.slice a hs.length c) hs.length (nats hs)∧Below w.heap.size w w'
set_option maxHeartbeats 4000000 in
theorem Yhc {w0 w:World} {S:List Nat} {q room:Nat} {cs:List (Nat×Ce)} {fr:List Nat} (V:Hr w0 S w q room cs fr) (h:Nat) (T:Tre) (hT:IsT cs h T) (K:List Int) (hK:Key K) (hrd:(sdC cs h).kind=2→(sdC cs h).dp=0):Calls Tryz.prog 46 #[.pointer (some ⟨q,0,none⟩),.int .i64 (h:Int),.agg (B K)] w (WyPost9 (T.hs K h) (T.fin K h) w):=by
 have HPS:Hid ((Tryz.prog.info? 34).map (·.size)=some (B K).size):=by show _=_;rw [Zm,hK.1];exact Zj
 have HV:=Za V
 have HW:=Za V.wf
 have HK:=Za hK
 have HT:=Za hT
 have HRD:=Za hrd
 have HN:Hid ((T.hs K h).length≤256):=by
  show _≤_
  rw [Tre.hs_oth]
  have:=(Zcy V.wf K T h 0 hT hrd (by omega)).2.2
  omega
 have HPost:Hid (∀a c w',w'.ownsRow w.heap.size 3 1 (.slice a (T.hs K h).length c) (T.hs K h).length (nats (T.hs K h))→Below w.heap.size w w'→WyPost9 (T.hs K h) (T.fin K h) w (.returned (.tuple #[.slice a (T.hs K h).length c,.int .i64 (T.fin K h:Int)])) w'):=fun a c w' h1 h2=>⟨a,c,rfl,h1,h2⟩
 obtain ⟨hh,hhe⟩:∃y:Int,y=(h:Int):=⟨_,rfl⟩
 rw [← hhe]
 have HHE:=Za hhe
 clear V hK hT hhe hrd
 generalize HE:WyPost9 (T.hs K h) (T.fin K h) w=P at HPost ⊢
 go_enter Tryz.func46,Tryz.ntmps46
 go_wp2_with (first
  |((with_reducible refine Zo 5 ?_);refine Zc _ rfl _ _ rfl _ rfl ?_;intro w2 b5 hg5 hl5 B5 q5;have HB52:=Za B5;have HQ2:=Za q5;clear hg5 hl5 B5 q5))
 go_loopw [8,9] (fun wv ev wr=>∃(pre:List Nat) (x:Nat) (U:Tre) (a:Option Addr) (n c:Nat),wv=.slice a n c∧ev=.int .i64 (x:Int)∧Hid (n=pre.length)∧Hid (wr.ownsRow w2.heap.size 3 1 (.slice a n c) n (nats pre))∧Hid (IsT cs x U∧pre++U.hs K x=T.hs K h∧U.fin K x=T.fin K h∧((sdC cs x).kind=2→(sdC cs x).dp=n))∧Hid (Below w2.heap.size w2 wr)) (fun wv _ _=>300-sLen wv)
 case atStart=>exact ⟨[],h,T,none,0,0,rfl,by rw [HHE.out],rfl,World.ownsRow_nil _ _ _ _,⟨HT.out,rfl,rfl,HRD.out⟩,Below.refl _ _⟩
 case round=>
  clear HT HHE HRD
  obtain ⟨pre,x,U,a,n,c,rfl,rfl,hn,hO,hU,hB⟩:=hrel
  have HVR:=Za (HV.out.grow (Zb HQ2.out hB.out))
  have hlen:n+(U.hs K x).length=(T.hs K h).length:=by
   have:=congrArg List.length hU.out.2.1
   rw [List.length_append] at this
   rw [hn.out]
   exact this
  have h256:=HN.out
  have HKD:Hid (Calls Tryz.prog 48 #[.pointer (some ⟨q,0,none⟩),.int .i64 (x:Int)] wr fun e w'=>e=.returned (.int .u8 (cat cs (x:Int)).kind)∧Below wr.heap.size wr w'):=Zmg HVR.out (x:Int)
  have HFin:Hid (U.hs K x=[]→U.fin K x=x→∀w',Below wr.heap.size wr w'→P (.returned (.tuple #[.slice a n c,.int .i64 (x:Int)])) w'):=fun e1 e2 w' hb=>by
   have q1:=hU.out.2.1
   rw [e1,List.append_nil] at q1
   have q2:=hU.out.2.2.1
   rw [e2] at q2
   have q3:=hn.out
   have hO':=Zl (Zao hO.out HQ2.out.size) hb
   rw [q3,q1] at hO'
   rw [q3,q1,q2]
   exact HPost.out a c w' hO' (Zb (Zb HQ2.out hB.out) hb)
  cases U with
  | emp=>
   have hx:x=0:=hU.out.1
   have HKZ:Hid ((cat cs (x:Int)).kind=0):=by rw [hx];rfl
   rw [HKZ.out] at HKD
   have HF:=Za (HFin.out rfl rfl)
   generalize (x:Int)=y at HKD HF ⊢
   clear HFin HKZ hx hU hlen h256 HVR
   go_wp2_with (first
    |(go_at_call 48;refine HKD.out.mono ?_;rintro e w3 ⟨rfl,b3⟩;have HB3:=Za b3;clear b3))
   exact HF.out _ HB3.out
  | lf k b=>
   obtain ⟨h1,h2,h3,h4,h5⟩:=hU.out.1
   have HKZ:Hid ((cat cs (x:Int)).kind=1):=by rw [Zdf h1];exact h3
   rw [HKZ.out] at HKD
   have HF:=Za (HFin.out rfl rfl)
   generalize (x:Int)=y at HKD HF ⊢
   clear HFin HKZ hU hlen h256 HVR h1 h2 h3 h4 h5
   go_wp2_with (first
    |(go_at_call 48;refine HKD.out.mono ?_;rintro e w3 ⟨rfl,b3⟩;have HB3:=Za b3;clear b3))
   exact HF.out _ HB3.out
  | nd d hl hr L R=>
   have hno:=Zhp HW.out hU.out.1
   obtain ⟨h1,h2,h3,h4,h5,h6,h7,h8⟩:=hU.out.1
   have hca:=Zdf (cs:=cs) h1
   rw [show (cat cs (x:Int)).kind=2 by rw [hca];exact h3] at HKD
   have hdn:d=n:=by
    have:=hU.out.2.2.2 (by rw [sdC,if_neg (by omega)];exact h3)
    rw [sdC,if_neg (by omega),h4] at this
    exact this
   subst hdn
   have HSD:Hid (∀w',Below wr.heap.size wr w'→Calls Tryz.prog 67 #[.pointer (some ⟨q,0,none⟩),.int .i64 (x:Int)] w' fun e w''=>e=.returned (.tuple #[.int .i64 (hl:Int),.int .i64 (hr:Int)])∧Below w'.heap.size w' w''):=fun w' hb=>by
    have:=Zsf (HVR.out.grow hb) (x:Int)
    rw [hca,h5,h6] at this
    exact this
   have hdp:=hno.dp
   have HKB:Hid (∀w',Calls Tryz.prog 106 #[.agg (B K),.int .i64 (d:Int)] w' fun e w''=>e=.returned (.int .i64 (kb K d))∧Below w'.heap.size w' w''):=fun w'=>Zfo K d w' HK.out hdp
   have hcut:(Tre.nd d hl hr L R).hs K x=x::(if kb K d=1 then R.hs K hr else L.hs K hl):=rfl
   have hfi:(Tre.nd d hl hr L R).fin K x=(if kb K d=1 then R.fin K hr else L.fin K hl):=rfl
   have HNX:Hid (∃U',IsT cs (if kb K d=1 then hr else hl) U'∧(pre++[x])++U'.hs K (if kb K d=1 then hr else hl)=T.hs K h∧U'.fin K (if kb K d=1 then hr else hl)=T.fin K h∧((sdC cs (if kb K d=1 then hr else hl)).kind=2→(sdC cs (if kb K d=1 then hr else hl)).dp=d+1)):=by
    have q1:=hU.out.2.1
    have q2:=hU.out.2.2.1
    rw [hcut] at q1
    rw [hfi] at q2
    show ∃_,_
    by_cases q:kb K d=1
    ·rw [if_pos q] at q1 q2 ⊢
     exact ⟨R,h8,by rw [List.append_assoc];exact q1,q2,hno.kr⟩
    ·rw [if_neg q] at q1 q2 ⊢
     exact ⟨L,h7,by rw [List.append_assoc];exact q1,q2,hno.kl⟩
   have hn256:d+1≤256:=by
    rw [hcut,List.length_cons] at hlen
    omega
   have hw1:wrap64 (d:Int)=(d:Int):=Go.IntWalk.wrap64_in _ (by omega)
   generalize kb K d=kd at HKB HNX
   obtain ⟨y,hy⟩:∃y:Int,y=(x:Int):=⟨_,rfl⟩
   rw [← hy] at HKD HSD
   rw [← hy]
   have HY:=Za hy
   have H256:=Za hn256
   clear HFin hU hlen h256 HVR h1 h2 h3 h4 h5 h6 h7 h8 hca hcut hfi hno hy hn256 hdp
   by_cases k1:kd=1
   ·subst k1
    rw [if_pos rfl] at HNX
    have HKB1:Hid (∀w',Calls Tryz.prog 106 #[.agg (B K),.int .i64 (d:Int)] w' fun e w''=>e=.returned (.int .i64 1)∧Below w'.heap.size w' w''):=HKB
    clear HKB
    go_wp2_with (first
     |(go_at_call 48;refine HKD.out.mono ?_;rintro e w3 ⟨rfl,b3⟩;have HB3:=Za b3;clear b3)
     |(go_at_call 67;refine (HSD.out _ HB3.out).mono ?_;rintro e w3b ⟨rfl,b3⟩;replace HB3:=Za (Zb HB3.out b3);have HO3:=Za ((Zl (Zl hO.out HB3.out) (Zd w3b (.cells #[.int .i64 y] 3))));clear b3)
     |(at_builtin;refine Zam _ rfl _ _ _ rfl w2.heap.size 3 1 8 Tryz.underlying30 Zae (by omega) _ d (nats pre) rfl HO3.out w3b.heap.size [Value.int .i64 y] rfl (Blk.new _ _ _) rfl (by intro u hu;simp at hu;subst hu;rfl) (by have:=H256.out;simp only [maxLen];omega) (by have:=H256.out;omega) (Nat.le_trans hB.out.size (Nat.le_trans HB3.out.size (by simp))) ?_;intro a4 c4 w4 o4 g4;have HO4:=Za o4;have HB4:=Za (Zaa (Zb (Zb hB.out HB3.out) (Zd w3b (.cells #[.int .i64 y] 3))) HO3.out (Nat.le_refl _) g4);clear o4 g4)
     |((with_reducible refine Zk 28 5 ?_);refine Zh _ rfl _ _ rfl b5 _ rfl (HB52.out.grow HB4.out) _ _ Tryz.underlying34 HPS.out ?_)
     |(go_at_call 106;refine (HKB1.out _).mono ?_;rintro e w5 ⟨rfl,b5'⟩;have HB5:=Za b5';clear b5'))
    obtain ⟨U',hU1,hU2,hU3,hU4⟩:=HNX.out
    have ho5:=Zl HO4.out HB5.out
    rw [HY.out,← Zap] at ho5
    exact ⟨⟨pre++[x],hr,U',a4,d+1,c4,rfl,rfl,by rw [List.length_append,List.length_singleton,← hn.out];exact rfl,ho5,⟨hU1,hU2,hU3,hU4⟩,Zb HB4.out HB5.out⟩,by have:=H256.out;simp only [sLen];omega⟩
   ·rw [if_neg k1] at HNX
    have HKB1:Hid (∀w',Calls Tryz.prog 106 #[.agg (B K),.int .i64 (d:Int)] w' fun e w''=>e=.returned (.int .i64 kd)∧Below w'.heap.size w' w''):=HKB
    clear HKB
    go_wp2_with (first
     |(go_at_call 48;refine HKD.out.mono ?_;rintro e w3 ⟨rfl,b3⟩;have HB3:=Za b3;clear b3)
     |(go_at_call 67;refine (HSD.out _ HB3.out).mono ?_;rintro e w3b ⟨rfl,b3⟩;replace HB3:=Za (Zb HB3.out b3);have HO3:=Za ((Zl (Zl hO.out HB3.out) (Zd w3b (.cells #[.int .i64 y] 3))));clear b3)
     |(at_builtin;refine Zam _ rfl _ _ _ rfl w2.heap.size 3 1 8 Tryz.underlying30 Zae (by omega) _ d (nats pre) rfl HO3.out w3b.heap.size [Value.int .i64 y] rfl (Blk.new _ _ _) rfl (by intro u hu;simp at hu;subst hu;rfl) (by have:=H256.out;simp only [maxLen];omega) (by have:=H256.out;omega) (Nat.le_trans hB.out.size (Nat.le_trans HB3.out.size (by simp))) ?_;intro a4 c4 w4 o4 g4;have HO4:=Za o4;have HB4:=Za (Zaa (Zb (Zb hB.out HB3.out) (Zd w3b (.cells #[.int .i64 y] 3))) HO3.out (Nat.le_refl _) g4);clear o4 g4)
     |((with_reducible refine Zk 28 5 ?_);refine Zh _ rfl _ _ rfl b5 _ rfl (HB52.out.grow HB4.out) _ _ Tryz.underlying34 HPS.out ?_)
     |(go_at_call 106;refine (HKB1.out _).mono ?_;rintro e w5 ⟨rfl,b5'⟩;have HB5:=Za b5';clear b5'))
    obtain ⟨U',hU1,hU2,hU3,hU4⟩:=HNX.out
    have ho5:=Zl HO4.out HB5.out
    rw [HY.out,← Zap] at ho5
    exact ⟨⟨pre++[x],hl,U',a4,d+1,c4,rfl,rfl,by rw [List.length_append,List.length_singleton,← hn.out];exact rfl,ho5,⟨hU1,hU2,hU3,hU4⟩,Zb HB4.out HB5.out⟩,by have:=H256.out;simp only [sLen];omega⟩
end Go.Proofs.YtgfdgjkbcdmboaaGreatDoor
namespace Go.Proofs.YtgfdgjkbcdmboaaGreatDoor
set_option maxRecDepth 20000
open Go.RowKit
def RW9 (w5:World) (S:List Nat) (q room:Nat) (cs:List (Nat×Ce)) (E:List Ent) (K bs:List Int) (ss:List Nat) (cs2:List (Nat×Ce)) (fr2:List Nat) (topF m top:Nat) (w':World):Prop:=∃csP csR fr',RfI cs E K bs ss room m csP csR fr' top cs2 fr2 topF∧Hr w5 S w' q room csR fr'
def RM9 (w5:World) (S:List Nat) (q room:Nat) (cs:List (Nat×Ce)) (E:List Ent) (K bs:List Int) (ss:List Nat) (cs2:List (Nat×Ce)) (fr2:List Nat) (topF m top:Nat) (w':World):Prop:=∃csP csR fr',RfI cs E K bs ss room (m+1) csP csR fr' top cs2 fr2 topF∧Hr w5 S w' q room (csH csR (ss.getD m 0)) fr'
section
variable {w5 w':World} {S:List Nat} {q room:Nat} {cs:List (Nat×Ce)} {E:List Ent} {K bs:List Int} {ss:List Nat} {cs2:List (Nat×Ce)} {fr2:List Nat} {topF m top:Nat}
theorem RW9.kq {P:World→Prop} (h:RW9 w5 S q room cs E K bs ss cs2 fr2 topF m top w') (k:Kq S w5 P):P w':=by
 obtain ⟨_,_,_,_,H⟩:=h
 exact H.kq k
theorem RM9.kq {P:World→Prop} (h:RM9 w5 S q room cs E K bs ss cs2 fr2 topF m top w') (k:Kq S w5 P):P w':=by
 obtain ⟨_,_,_,_,H⟩:=h
 exact H.kq k
theorem RW9.grow {w'':World} (h:RW9 w5 S q room cs E K bs ss cs2 fr2 topF m top w') (hb:Below w'.heap.size w' w''):RW9 w5 S q room cs E K bs ss cs2 fr2 topF m top w'':=by
 obtain ⟨a,b,c,I,H⟩:=h
 exact ⟨a,b,c,I,H.grow hb⟩
theorem Ycb (h:RW9 w5 S q room cs E K bs ss cs2 fr2 topF (m+1) top w') (h0:ss.getD m 0=0):RM9 w5 S q room cs E K bs ss cs2 fr2 topF m top w':=by
 obtain ⟨a,b,c,I,H⟩:=h
 refine ⟨a,b,c,I,?_⟩
 rw [h0,csH,if_pos rfl]
 exact H
theorem Ycf (hbo:BesOk cs E K ss) (hct:∀i,cc cs i+257<1073741824) (hroom:noc cs+258≤room) (hm:m<ss.length) (h0:ss.getD m 0≠0) (h:RW9 w5 S q room cs E K bs ss cs2 fr2 topF (m+1) top w'):Calls Tryz.prog 114 #[.pointer (some ⟨q,0,none⟩),.int .i64 (ss.getD m 0:Int)] w' fun e w''=>e=.returned (.int .i64 0)∧RM9 w5 S q room cs E K bs ss cs2 fr2 topF m top w'':=by
 obtain ⟨csP,csR,fr',I,H⟩:=h
 have st:=(Zxk hbo hm hroom I).1
 obtain ⟨s,hs⟩:∃s,s=ss.getD m 0:=⟨_,rfl⟩
 have hmem:s∈ss:=by
  rw [hs,List.getD_eq_getElem?_getD,List.getElem?_eq_getElem hm]
  exact List.getElem_mem hm
 rw [← hs] at h0 st ⊢
 have hocc:=(Zdu hbo s hmem).resolve_left h0
 have hcnt:=I.ri.cnt (s-1) hocc
 have hlt:cc csR (s-1)<1073741824:=by
  have h1:=I.lag.lcc (s-1)
  have h2:=List.count_le_length (l:=ss) (a:=s-1+1)
  have h3:=hbo.len
  have h4:=hct (s-1)
  omega
 have hh:=Zyz H (s-1) (st.occ h0) hlt
 rw [show (((s-1:Nat):Int)+1)=(s:Int) by omega] at hh
 refine hh.mono ?_
 rintro e w'' ⟨rfl,k⟩
 refine ⟨rfl,csP,csR,fr',I,?_⟩
 rw [← hs,csH,if_neg h0]
 exact k
theorem Ycc (hbo:BesOk cs E K ss) (hroom:noc cs+258≤room) (h5:room≤5000) (hK:Key K) (hm:m<ss.length) (h:RM9 w5 S q room cs E K bs ss cs2 fr2 topF m top w'):Calls Tryz.prog 115 #[.pointer (some ⟨q,0,none⟩),.agg (B K),.int .i64 (m:Int),.int .i64 (top:Int),.int .i64 (ss.getD m 0:Int)] w' fun e w''=>∃t:Nat,e=.returned (.int .i64 (t:Int))∧RW9 w5 S q room cs E K bs ss cs2 fr2 topF m t w'':=by
 obtain ⟨csP,csR,fr',I,H⟩:=h
 obtain ⟨st,csP',csR',hI,I'⟩:=Zxk hbo hm hroom I
 obtain ⟨u,hu,hf⟩:=st.fit
 refine (Ykm H h5 K hK m top (ss.getD m 0) (by have:=hbo.len;omega) st.ml st.mr u hu hf st.full hI).mono ?_
 rintro e w'' ⟨rfl,k⟩
 exact ⟨_,rfl,csP',csR',_,I',k⟩
theorem Zpd {csP csR:List (Nat×Ce)} {fr':List Nat} (W:Wf cs []) (I:RfI cs E K bs ss room m csP csR fr' top cs2 fr2 topF) {x:Nat} (hx:x=0∨0<cc cs (x-1)):(cat csR (x:Int)).kind=(sdC cs x).kind∧(cat csR (x:Int)).key=(sdC cs x).key∧(cat csR (x:Int)).l=(sdC cs x).l∧(cat csR (x:Int)).r=(sdC cs x).r:=by
 have:=W
 rw [Zaj]
 rcases hx with e | e
 ·subst e
  exact ⟨rfl,rfl,rfl,rfl⟩
 ·by_cases h0:x=0
  ·subst h0
   exact ⟨rfl,rfl,rfl,rfl⟩
  ·have hc:=(I.ri.keep (x-1) e).2
   have hl:=I.lag.lce (x-1)
   unfold sdC
   rw [if_neg h0,if_neg h0,hl,hc]
   exact ⟨rfl,rfl,rfl,rfl⟩
theorem Zwz {T:Tre} {root:Nat} (W:Wf cs []) (hT:IsT cs root T) (hrd:(sdC cs root).kind=2→(sdC cs root).dp=0) (hK:Key K) (hss:BesIs K T root ss) (hm:m<(T.hs K root).length) (h:RW9 w5 S q room cs E K bs ss cs2 fr2 topF (m+1) top w'):Calls Tryz.prog 49 #[.pointer (some ⟨q,0,none⟩),.agg (B K),.int .i64 (m:Int),.int .i64 ((T.hs K root).getD m 0:Int)] w' fun e w''=>e=.returned (.int .i64 (ss.getD m 0:Int))∧RW9 w5 S q room cs E K bs ss cs2 fr2 topF (m+1) top w'':=by
 have hh:=h
 obtain ⟨csP,csR,fr',I,H⟩:=h
 obtain ⟨x,a1,a2,a3,a4,a5,a6,a7,a8⟩:=Ydx W K T root 0 hT hrd m hm
 rw [Nat.zero_add] at a5 a6 a7
 have hx:(T.hs K root).getD m 0=x:=by rw [List.getD_eq_getElem?_getD,a1];rfl
 have hmo:m<(T.oth K).length:=by rw [← Tre.hs_oth K T root];exact hm
 have ho:ss.getD m 0=(if kb K m=1 then (ce cs (x-1)).l else (ce cs (x-1)).r):=by
  have e0:(T.oth K).getD m 0=(if kb K m=1 then (ce cs (x-1)).l else (ce cs (x-1)).r):=by rw [List.getD_eq_getElem?_getD,a7];rfl
  rcases hss with ⟨_,rfl⟩ | ⟨b,_,rfl⟩ | ⟨k,b,c,_,_,_,_,_,rfl⟩
  ·exact e0
  ·exact e0
  ·rw [Zsw _ _ _ _ hmo]
   exact e0
 rw [hx]
 have:=Yhm H K hK m a6 (x:Int)
 obtain ⟨_,_,c3,c4⟩:=Zpd W I (x:=x) (.inr a3)
 rw [c3,c4,show sdC cs x=ce cs (x-1) from if_neg (by omega),← ho] at this
 exact this.mono fun e w'' ⟨e1,b⟩=>⟨e1,hh.grow b⟩
theorem Yce (W:Wf cs []) {x:Nat} (hx:x=0∨0<cc cs (x-1)) (h:RW9 w5 S q room cs E K bs ss cs2 fr2 topF m top w'):Calls Tryz.prog 48 #[.pointer (some ⟨q,0,none⟩),.int .i64 (x:Int)] w' fun e w''=>e=.returned (.int .u8 (sdC cs x).kind)∧RW9 w5 S q room cs E K bs ss cs2 fr2 topF m top w'':=by
 have hh:=h
 obtain ⟨csP,csR,fr',I,H⟩:=h
 have:=Zmg H (x:Int)
 rw [(Zpd W I hx).1] at this
 exact this.mono fun e w'' ⟨e1,b⟩=>⟨e1,hh.grow b⟩
theorem Yhd (W:Wf cs []) (h5:room≤5000) {x:Nat} (hx:x=0∨0<cc cs (x-1)) (h:RW9 w5 S q room cs E K bs ss cs2 fr2 topF m top w'):Calls Tryz.prog 95 #[.pointer (some ⟨q,0,none⟩),.int .i64 (x:Int)] w' fun e w''=>e=.returned (.agg (B (sdC cs x).key))∧RW9 w5 S q room cs E K bs ss cs2 fr2 topF m top w'':=by
 have hh:=h
 obtain ⟨csP,csR,fr',I,H⟩:=h
 have:=Zyy H h5 (x:Int)
 rw [(Zpd W I hx).2.1] at this
 exact this.mono fun e w'' ⟨e1,b⟩=>⟨e1,hh.grow b⟩
theorem Ycd {fr:List Nat} {v' u:Value} (V:Hr w5 S w' q room cs fr) (h5:room≤5000) (hbo:BesOk cs E K ss) (hroom:noc cs+258≤room) (hct:∀i,cc cs i+257<1073741824) (hK:Key K) (hu:Reads w' u bs) (hl:bs.length≤1024) (ok:CeOk (lfC (lfD K (vaD bs)) K v' bs)) (hz:Rz K ss (tkC (holdM cs ss) fr (1,lfC (lfD K (vaD bs)) K v' bs)) fr.dropLast (tkH (holdM cs ss) fr) cs2 fr2 topF):Calls Tryz.prog 127 #[.pointer (some ⟨q,0,none⟩),.agg (B K),u] w' fun e w''=>∃t:Nat,e=.returned (.tuple #[.int .i64 (t:Int),.int .i64 0])∧RW9 w5 S q room cs E K bs ss cs2 fr2 topF ss.length t w'':=by
 have W:=V.wf
 have hm:=Yec W ss.length ss rfl (Zdu hbo)
 have lag0:=Lag.start hm (Zdu hbo)
 have hbs:Bytes bs:=by obtain ⟨_,_,_,_,_,hb,_⟩:=hu;exact hb
 have I:=V.inv
 have IH:Inv room ((holdM cs ss).map pl) fr:=by
  refine ⟨I.r1,I.r2,by rw [List.length_map,hm.len];exact I.lenC,I.nod,fun s hs=>?_,?_,fun i=>?_⟩
  ·obtain ⟨a,b,c⟩:=I.free s hs
   rw [List.length_map] at b
   rw [Zal] at c
   refine ⟨a,by rw [List.length_map,hm.len];exact b,?_⟩
   rw [Zal,hm.cc,c]
   have:ss.count (s-1+1)=0:=by
    apply List.count_eq_zero.2
    intro hx
    rcases Zdu hbo _ hx with e | e
    ·omega
    ·rw [Nat.add_sub_cancel,c] at e
     omega
   omega
  ·have h1:=I.sum
   have h2:=hm.noc
   rw [List.length_map] at h1 ⊢
   unfold noc at h2
   rw [hm.len]
   omega
  ·rw [Zal,hm.cc]
   have h2:=List.count_le_length (l:=ss) (a:=i+1)
   have h3:=hbo.len
   have h4:=hct i
   omega
 have hF:=Zdb IH
 have full: ¬Full room cs fr:=fun f=>by
  have h1:=I.sum
  rw [f.1,List.length_map] at h1
  have:=f.2
  unfold noc at hroom
  simp at h1
  omega
 refine (Yir V h5 K u v' bs hu hK hl full ok).mono ?_
 rintro e w'' ⟨rfl,k⟩
 refine ⟨_,rfl,_,_,_,⟨?_,?_,?_,Zyr IH (fun f=>full ((lag0.full room).2 f)) (lfC (lfD K (vaD bs)) K v' bs)⟩,k⟩
 ·rw [List.take_length,lag0.tk]
  exact hz
 ·rw [lag0.tk]
  exact Zrk W hbo hm hF v' hbs hl ok
 ·rw [List.take_length]
  exact lag0.fill hF (by show (0:Nat)<1;omega)
theorem Zxa (h:RW9 w5 S q room cs E K bs ss cs2 fr2 topF 0 top w'):top=topF∧Hr w5 S w' q room cs2 fr2∧RzI cs E K bs ss 0 cs2 topF:=by
 obtain ⟨csP,csR,fr',I,H⟩:=h
 have hz:=I.rz
 have hl:=I.lag
 rw [List.take_zero] at hz hl
 obtain ⟨rfl,rfl,rfl⟩:=Ykf hz
 obtain rfl:=hl.end
 exact ⟨rfl,H,I.ri⟩
end
end Go.Proofs.YtgfdgjkbcdmboaaGreatDoor
namespace Go.Proofs.YtgfdgjkbcdmboaaGreatDoor
set_option maxRecDepth 20000
open Go.RowKit
def SRow (w:World) (g:Nat) (ss:List ByteArray):Prop:=w.heap[g]?=some (.cells (ss.map Value.string).toArray 9 (0,0))
structure Lists (base gl off n:Nat) (V:Nat→Value) (Z S:Nat→List Int) (w:World):Prop where
 cell:∀i,i<n→w.cell? ⟨gl,off+i,none⟩=some (V i)
 own:∀i,i<n→Own base w (V i) (Z i) (S i)
 apart:∀i k,i<n→k<n→i≠k→∀g,(V i).ownBlock=some g→(V k).ownBlock≠some g
 far:∀i,i<n→(V i).ownBlock≠some gl
def txt (Z S:Nat→List Int) (k:Nat):ByteArray:=strOfNums (Z k++S k)
end Go.Proofs.YtgfdgjkbcdmboaaGreatDoor
