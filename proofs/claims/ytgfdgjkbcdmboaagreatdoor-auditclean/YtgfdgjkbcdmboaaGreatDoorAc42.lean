/- The document's Put and Cost, as contracts. -/
import Derived.Test.YtgfdgjkbcdmboaaGreatDoorAc41
namespace Go.Proofs.YtgfdgjkbcdmboaaGreatDoor
set_option maxRecDepth 20000
open Go.RowKit
section
variable {w0 w:World} {S0:List Nat} {q room:Nat} {cs:List (Nat×Ce)} {fr:List Nat}
theorem Zvw {T:Tre} {root:Nat} (hT:IsT cs root T) {K bs:List Int} (hs:T.efin K=[(K,bs)]):thP (cat cs (T.fin K root:Int)) K bs=true:=by
 rcases Zen K T root hT with ⟨_,f2⟩ | ⟨k,b,f1,f2,f3,f4,f5,f6⟩
 ·rw [f2] at hs;cases hs
 ·rw [f1] at hs
  injection hs with hs _
  injection hs with e1 e2
  rw [Zdf f2]
  unfold thP
  rw [f4,f5,f6,e1,e2]
  simp
theorem Yfo {T:Tre} {root:Nat} (hT:IsT cs root T) {K bs:List Int} (hs:T.efin K≠[(K,bs)]):thP (cat cs (T.fin K root:Int)) K bs=false:=by
 rcases Zen K T root hT with ⟨f1,_⟩ | ⟨k,b,f1,f2,f3,f4,f5,f6⟩
 ·rw [f1]
  rfl
 ·rw [Zdf f2]
  unfold thP
  rw [f4,f5,f6]
  rw [f1] at hs
  by_cases e1:k=K
  ·by_cases e2:b=bs
   ·exact absurd (by rw [e1,e2]) hs
   ·simp [e2]
  ·simp [e1]
set_option maxHeartbeats 1000000 in
theorem Ycj (V:Hr w0 S0 w q room cs fr) (h:Int) (K:List Int) (u:Value) (bs:List Int) (hu:Reads w u bs) (e0:Int) (he:vRf true (cot cs h) (cat cs h) h bs.length=e0) (h0:e0≠0):Calls Tryz.prog 151 #[.pointer (some ⟨q,0,none⟩),.int .i64 h,.agg (B K),u] w fun e w'=>e=.returned (.tuple #[.int .i64 0,.int .i64 e0])∧Below w.heap.size w w':=by
 obtain ⟨a,c,rfl,_⟩:=hu
 have HRF:Hid (∀w',Below w.heap.size w w'→Calls Tryz.prog 190 #[.pointer (some ⟨q,0,none⟩),.int .i64 h,.slice a bs.length c] w' fun e w''=>e=.returned (.int .i64 e0)∧Below w'.heap.size w' w''):=fun w' hb=>by
  have:=Zgs (V.grow hb) h a bs.length c
  rwa [he] at this
 have hb0:(e0 != 0)=true:=by simpa using h0
 generalize bs.length=n at HRF ⊢
 clear V he h0
 go_enter Tryz.func151,Tryz.ntmps151
 go_wp2_with (first
  |((with_reducible refine Zo 6 ?_);refine Zc _ rfl _ _ rfl _ rfl ?_;intro w1 b5 hg5 hl5 B5 q5;have HQ5:=Za q5;clear hg5 hl5 B5 q5)
  |(go_at_call 190;refine (HRF.out _ HQ5.out).mono ?_;rintro e w2 ⟨rfl,b2⟩;have HQ2:=Za (Zb HQ5.out b2);clear b2))
 go_ret2
 exact ⟨rfl,HQ2.out⟩
set_option maxHeartbeats 1000000 in
theorem Zxe (V:Hr w0 S0 w q room cs fr) (h5:room≤5000) (h:Int) (K:List Int) (u:Value) (bs:List Int) (hu:Reads w u bs) (he:vRf true (cot cs h) (cat cs h) h bs.length=0) (hf:room<noc cs+258):Calls Tryz.prog 151 #[.pointer (some ⟨q,0,none⟩),.int .i64 h,.agg (B K),u] w fun e w'=>e=.returned (.tuple #[.int .i64 0,.int .i64 9])∧Below w.heap.size w w':=by
 obtain ⟨a,c,rfl,_⟩:=hu
 have HRF:Hid (∀w',Below w.heap.size w w'→Calls Tryz.prog 190 #[.pointer (some ⟨q,0,none⟩),.int .i64 h,.slice a bs.length c] w' fun e w''=>e=.returned (.int .i64 0)∧Below w'.heap.size w' w''):=fun w' hb=>by
  have:=Zgs (V.grow hb) h a bs.length c
  rwa [he] at this
 have HFT:Hid (∀w',Below w.heap.size w w'→Calls Tryz.prog 56 #[.pointer (some ⟨q,0,none⟩),.int .i64 1] w' fun e w''=>e=.returned (.bool false)∧Below w'.heap.size w' w''):=fun w' hb=>by
  have:=Zrn (V.grow hb) h5 1
  rwa [show fitsN (noc cs) room 1=false by simp [fitsN];omega] at this
 generalize bs.length=n at HRF ⊢
 clear V he hf
 go_enter Tryz.func151,Tryz.ntmps151
 go_wp2_with (first
  |((with_reducible refine Zo 6 ?_);refine Zc _ rfl _ _ rfl _ rfl ?_;intro w1 b5 hg5 hl5 B5 q5;have HQ5:=Za q5;clear hg5 hl5 B5 q5)
  |(go_at_call 190;refine (HRF.out _ HQ5.out).mono ?_;rintro e w2 ⟨rfl,b2⟩;have HQ2:=Za (Zb HQ5.out b2);clear b2)
  |(go_at_call 56;refine (HFT.out _ HQ2.out).mono ?_;rintro e w3 ⟨rfl,b3⟩;have HQ3:=Za (Zb HQ2.out b3);clear b3))
 go_ret2
 exact ⟨rfl,HQ3.out⟩
set_option maxHeartbeats 1000000 in
theorem Zxd (V:Hr w0 S0 w q room cs fr) (h5:room≤5000) {h:Nat} {T:Tre} (r:Rt cs h T) {K:List Int} (hK:Key K) {u:Value} {bs:List Int} (hu:Reads w u bs) (hl:bs.length≤1024) (hf:noc cs+258≤room) (hsm:T.efin K=[(K,bs)]):Calls Tryz.prog 151 #[.pointer (some ⟨q,0,none⟩),.int .i64 (h:Int),.agg (B K),u] w fun e w'=>e=.returned (.tuple #[.int .i64 (h:Int),.int .i64 0])∧Below w.heap.size w w':=by
 have HWY:Hid (∀w',Below w.heap.size w w'→Calls Tryz.prog 46 #[.pointer (some ⟨q,0,none⟩),.int .i64 (h:Int),.agg (B K)] w' fun e w''=>∃a c n,e=.returned (.tuple #[.slice a n c,.int .i64 (T.fin K h:Int)])∧Below w'.heap.size w' w''):=fun w' hb=>(Yhc (V.grow hb) h T r.tree K hK r.dp).mono fun e w'' ⟨a,c,e1,_,b⟩=>⟨a,c,_,e1,b⟩
 have HTH:Hid (∀w',Below w.heap.size w w'→Calls Tryz.prog 191 #[.pointer (some ⟨q,0,none⟩),.int .i64 (T.fin K h:Int),.agg (B K),u] w' fun e w''=>e=.returned (.bool true)∧Below w'.heap.size w' w''):=fun w' hb=>by
  have:=Zpe (V.grow hb) h5 (T.fin K h:Int) K hK u bs (hu.grow hb)
  rwa [Zvw r.tree hsm] at this
 obtain ⟨a,c,hue,_⟩:=hu
 subst hue
 have HRF:Hid (∀w',Below w.heap.size w w'→Calls Tryz.prog 190 #[.pointer (some ⟨q,0,none⟩),.int .i64 (h:Int),.slice a bs.length c] w' fun e w''=>e=.returned (.int .i64 0)∧Below w'.heap.size w' w''):=fun w' hb=>by
  have:=Zgs (V.grow hb) (h:Int) a bs.length c
  rwa [r.refuse hl] at this
 have HFT:Hid (∀w',Below w.heap.size w w'→Calls Tryz.prog 56 #[.pointer (some ⟨q,0,none⟩),.int .i64 1] w' fun e w''=>e=.returned (.bool true)∧Below w'.heap.size w' w''):=fun w' hb=>by
  have:=Zrn (V.grow hb) h5 1
  rwa [show fitsN (noc cs) room 1=true by simp [fitsN];omega] at this
 have HPS:Hid ((Tryz.prog.info? 34).map (·.size)=some (B K).size):=by show _=_;rw [Zm,hK.1];exact Zj
 generalize (h:Int)=hh at HWY HRF ⊢
 generalize (T.fin K h:Int)=ff at HWY HTH
 generalize bs.length=n at HRF HTH ⊢
 clear V hf hK r hsm
 go_enter Tryz.func151,Tryz.ntmps151
 go_wp2_with (first
  |((with_reducible refine Zo 6 ?_);refine Zc _ rfl _ _ rfl _ rfl ?_;intro w1 b5 hg5 hl5 B5 q5;have HQ5:=Za q5;have HB5:=Za B5;clear hg5 hl5 B5 q5)
  |(go_at_call 190;refine (HRF.out _ HQ5.out).mono ?_;rintro e w2 ⟨rfl,b2⟩;have HQ2:=Za (Zb HQ5.out b2);have HB2:=Za (HB5.out.grow b2);clear b2)
  |(go_at_call 56;refine (HFT.out _ HQ2.out).mono ?_;rintro e w3 ⟨rfl,b3⟩;have HQ3:=Za (Zb HQ2.out b3);have HB3:=Za (HB2.out.grow b3);clear b3)
  |((with_reducible refine Zk 32 6 ?_);refine Zh _ rfl _ _ rfl b5 _ rfl HB3.out _ _ Tryz.underlying34 HPS.out ?_)
  |(go_at_call 46;refine (HWY.out _ HQ3.out).mono ?_;rintro e w4 ⟨wa,wc,wn,rfl,b4⟩;have HQ4:=Za (Zb HQ3.out b4);have HB4:=Za (HB3.out.grow b4);clear b4)
  |((with_reducible refine Zk 38 6 ?_);refine Zh _ rfl _ _ rfl b5 _ rfl HB4.out _ _ Tryz.underlying34 HPS.out ?_)
  |(go_at_call 191;refine (HTH.out _ HQ4.out).mono ?_;rintro e w5 ⟨rfl,b6⟩;have HQ6:=Za (Zb HQ4.out b6);clear b6))
 go_ret2
 exact ⟨rfl,HQ6.out⟩
theorem Yci (V0:Hr w0 S0 w q room cs fr) (h5:room≤5000) {h:Nat} {T:Tre} (r:Rt cs h T) {K:List Int} (hK:Key K) {u:Value} {bs:List Int} (hu0:Kq S0 w0 fun w'=>Reads w' u bs) (hl:bs.length≤1024) (hct:∀i,cc cs i+257<1073741824) (hf:noc cs+258≤room) (hne:T.efin K≠[(K,bs)]) {ss:List Nat} (hss:BesIs K T h ss) (hbo:BesOk cs T.ents K ss) {topF:Nat} {cs':List (Nat×Ce)} {fr':List Nat} (hp:PutTo cs fr h K bs ss topF cs' fr'):Calls Tryz.prog 151 #[.pointer (some ⟨q,0,none⟩),.int .i64 (h:Int),.agg (B K),u] w fun e w'=>e=.returned (.tuple #[.int .i64 (topF:Int),.int .i64 0])∧Hr w0 S0 w' q room cs' fr':=by
 obtain ⟨S,V,hN,hkq,hS,hbk⟩:=V0.from
 have hu:=hkq _ hu0
 have W:=V.wf
 obtain ⟨v',cs2,fr2,ok,hz,hfin⟩:=hp
 have hlen:=Tre.hs_oth K T h
 have HS:Hid (∀b,w.heap.size≤b→b ∉ S):=fun b hb e=>by have:=hS b e;omega
 have HPS:Hid ((Tryz.prog.info? 34).map (·.size)=some (B K).size):=by show _=_;rw [Zm,hK.1];exact Zj
 have HWR:Hid (∀w',Below w.heap.size w w'→Calls Tryz.prog 190 #[.pointer (some ⟨q,0,none⟩),.int .i64 (h:Int),u] w' fun e w''=>e=.returned (.int .i64 0)∧Below w'.heap.size w' w''):=fun w' hb=>by
  obtain ⟨a,c,hue,_⟩:=hu.now
  have:=Zgs (V.grow hb) (h:Int) a bs.length c
  rw [r.refuse hl] at this
  rw [hue]
  exact this
 have HFT:Hid (∀w',Below w.heap.size w w'→Calls Tryz.prog 56 #[.pointer (some ⟨q,0,none⟩),.int .i64 1] w' fun e w''=>e=.returned (.bool true)∧Below w'.heap.size w' w''):=fun w' hb=>by
  have:=Zrn (V.grow hb) h5 1
  rwa [show fitsN (noc cs) room 1=true by simp [fitsN];omega] at this
 have HWY:Hid (∀w',Below w.heap.size w w'→Calls Tryz.prog 46 #[.pointer (some ⟨q,0,none⟩),.int .i64 (h:Int),.agg (B K)] w' fun e w''=>∃a c,e=.returned (.tuple #[.slice a (T.hs K h).length c,.int .i64 (T.fin K h:Int)])∧w''.ownsRow w'.heap.size 3 1 (.slice a (T.hs K h).length c) (T.hs K h).length (nats (T.hs K h))∧Below w'.heap.size w' w''):=fun w' hb=>Yhc (V.grow hb) h T r.tree K hK r.dp
 have HTH:Hid (∀w',Below w.heap.size w w'→Calls Tryz.prog 191 #[.pointer (some ⟨q,0,none⟩),.int .i64 (T.fin K h:Int),.agg (B K),u] w' fun e w''=>e=.returned (.bool false)∧Below w'.heap.size w' w''):=fun w' hb=>by
  have:=Zpe (V.grow hb) h5 (T.fin K h:Int) K hK u bs (hu.now.grow hb)
  rwa [Yfo r.tree hne] at this
 have HLF:Hid (∀w5,Below w.heap.size w w5→Calls Tryz.prog 127 #[.pointer (some ⟨q,0,none⟩),.agg (B K),u] w5 fun e w''=>∃t:Nat,e=.returned (.tuple #[.int .i64 (t:Int),.int .i64 0])∧RW9 w5 S q room cs T.ents K bs ss cs2 fr2 topF ss.length t w''):=fun w5 hb=>Ycd (V.rebase hb) h5 hbo hf hct hK (hu.now.grow hb) hl ok hz
 have HGR:Hid (∀w5 m t w' w'',RW9 w5 S q room cs T.ents K bs ss cs2 fr2 topF m t w'→Below w'.heap.size w' w''→RW9 w5 S q room cs T.ents K bs ss cs2 fr2 topF m t w''):=fun w5 m t w' w'' h1 h2=>h1.grow h2
 have HKP:Hid (∀w5 m t w' (Q:World→Prop),Kq S w5 Q→RW9 w5 S q room cs T.ents K bs ss cs2 fr2 topF m t w'→Q w'):=fun w5 m t w' Q k h1=>h1.kq k
 have HKM:Hid (∀w5 m t w' (Q:World→Prop),Kq S w5 Q→RM9 w5 S q room cs T.ents K bs ss cs2 fr2 topF m t w'→Q w'):=fun w5 m t w' Q k h1=>h1.kq k
 have HNO:Hid (∀w5 m t w',ss.getD m 0=0→RW9 w5 S q room cs T.ents K bs ss cs2 fr2 topF (m+1) t w'→RM9 w5 S q room cs T.ents K bs ss cs2 fr2 topF m t w'):=fun w5 m t w' h0 h1=>Ycb h1 h0
 have HHO:Hid (∀w5 m t w',m<ss.length→ss.getD m 0≠0→RW9 w5 S q room cs T.ents K bs ss cs2 fr2 topF (m+1) t w'→Calls Tryz.prog 114 #[.pointer (some ⟨q,0,none⟩),.int .i64 (ss.getD m 0:Int)] w' fun e w''=>e=.returned (.int .i64 0)∧RM9 w5 S q room cs T.ents K bs ss cs2 fr2 topF m t w''):=fun w5 m t w' hm h0 h1=>Ycf hbo hct hf hm h0 h1
 have HMA:Hid (∀w5 m (t:Nat) w',m<ss.length→RM9 w5 S q room cs T.ents K bs ss cs2 fr2 topF m t w'→Calls Tryz.prog 115 #[.pointer (some ⟨q,0,none⟩),.agg (B K),.int .i64 (m:Int),.int .i64 (t:Int),.int .i64 (ss.getD m 0:Int)] w' fun e w''=>∃t':Nat,e=.returned (.int .i64 (t':Int))∧RW9 w5 S q room cs T.ents K bs ss cs2 fr2 topF m t' w''):=fun w5 m t w' hm h1=>Ycc hbo hf h5 hK hm h1
 have HOT:Hid (∀w5 m t w',m<(T.hs K h).length→RW9 w5 S q room cs T.ents K bs ss cs2 fr2 topF (m+1) t w'→Calls Tryz.prog 49 #[.pointer (some ⟨q,0,none⟩),.agg (B K),.int .i64 (m:Int),.int .i64 ((T.hs K h).getD m 0:Int)] w' fun e w''=>e=.returned (.int .i64 (ss.getD m 0:Int))∧RW9 w5 S q room cs T.ents K bs ss cs2 fr2 topF (m+1) t w''):=fun w5 m t w' hm h1=>Zwz W r.tree r.dp hK hss hm h1
 obtain ⟨P,hP⟩:∃P:Ending→World→Prop,P=fun e w'=>e=.returned (.tuple #[.int .i64 (topF:Int),.int .i64 0])∧Hr w0 S0 w' q room cs' fr':=⟨_,rfl⟩
 have HDR:Hid (0<(h:Int)→∀w5 (t:Nat) w',Below w.heap.size w w5→RW9 w5 S q room cs T.ents K bs ss cs2 fr2 topF 0 t w'→Calls Tryz.prog 58 #[.pointer (some ⟨q,0,none⟩),.int .i64 (h:Int)] w' fun e w''=>∃x y:Int,e=.returned (.tuple #[.int .i64 x,.int .i64 y])∧P (.returned (.tuple #[.int .i64 (t:Int),.int .i64 0])) w''):=fun h0 w5 t w' hb h1=>by
  obtain ⟨rfl,H2,I2⟩:=Zxa h1
  obtain ⟨_,n,run⟩:=hfin.resolve_left (fun q=>by omega)
  have ho2:0<own cs2 [] (h-1):=by
   have:=I2.own (h-1)
   rw [List.take_zero,List.count_nil] at this
   have:=r.own.resolve_left (by omega)
   omega
  have run':Run cs2 fr2 [h-1+1] cs' fr' n:=by rw [show h-1+1=h by omega];exact run
  have hd:=Zza H2 (h-1) ho2 run'
  rw [show (((h-1:Nat):Int)+1)=(h:Int) by omega] at hd
  refine hd.mono ?_
  rintro e w'' ⟨rfl,k⟩
  rw [hP]
  exact ⟨_,_,rfl,rfl,hbk _ _ _ (Hr.back hb k)⟩
 have HND:Hid ((h:Int)≤0→∀w5 (t:Nat) w',Below w.heap.size w w5→RW9 w5 S q room cs T.ents K bs ss cs2 fr2 topF 0 t w'→P (.returned (.tuple #[.int .i64 (t:Int),.int .i64 0])) w'):=fun h0 w5 t w' hb h1=>by
  obtain ⟨rfl,H2,I2⟩:=Zxa h1
  obtain ⟨_,rfl,rfl⟩:=hfin.resolve_right (fun q=>by have:=q.1;omega)
  rw [hP]
  exact ⟨rfl,hbk _ _ _ (Hr.back hb H2)⟩
 rw [← hP]
 have hfo:=Zen K T h r.tree
 have hoc:T.fin K h=0∨0<cc cs (T.fin K h-1):=by
  rcases hfo with ⟨e,_⟩ | ⟨_,_,_,_,e,_⟩
  ·exact .inl e
  ·exact .inr e
 have HKD0:Hid (∀w5 t w',RW9 w5 S q room cs T.ents K bs ss cs2 fr2 topF ss.length t w'→Calls Tryz.prog 48 #[.pointer (some ⟨q,0,none⟩),.int .i64 (T.fin K h:Int)] w' fun e w''=>e=.returned (.int .u8 (sdC cs (T.fin K h)).kind)∧RW9 w5 S q room cs T.ents K bs ss cs2 fr2 topF ss.length t w''):=fun w5 t w' h1=>Yce W hoc h1
 have HKY0:Hid (∀w5 t w',RW9 w5 S q room cs T.ents K bs ss cs2 fr2 topF ss.length t w'→Calls Tryz.prog 95 #[.pointer (some ⟨q,0,none⟩),.int .i64 (T.fin K h:Int)] w' fun e w''=>e=.returned (.agg (B (sdC cs (T.fin K h)).key))∧RW9 w5 S q room cs T.ents K bs ss cs2 fr2 topF ss.length t w''):=fun w5 t w' h1=>Yhd W h5 hoc h1
 rcases hfo with ⟨f1,f2⟩ | ⟨k,b,f1,f2,f3,f4,f5,f6⟩
 ·have hsl:ss=T.oth K:=by
   rcases hss with ⟨_,e⟩ | ⟨b,e,_⟩ | ⟨k,b,c,e,_⟩
   ·exact e
   ·rw [f2] at e;cases e
   ·rw [f2] at e;cases e
  have hk0:(sdC cs (T.fin K h)).kind=0:=by rw [f1];rfl
  rw [hk0] at HKD0
  have hsw:(T.hs K h).length=ss.length:=by rw [hlen,hsl]
  exact Yhk (sg:=fun m=>ss.getD m 0) HS HPS rfl ⟨by omega,hbo.len⟩ HWR HFT HWY HTH HLF HGR HKP HKM HNO HHO HMA HOT HDR HND HKD0 hsw
 ·have hsd:sdC cs (T.fin K h)=ce cs (T.fin K h-1):=if_neg (by omega)
  rw [hsd,f4] at HKD0
  rw [hsd,f5] at HKY0
  rcases hss with ⟨e,_⟩ | ⟨b',e,hs⟩ | ⟨k',b',c,e,e2,e3,e4,e5,hs⟩
  ·rw [f1] at e;cases e
  ·rw [f1] at e
   injection e with e _
   injection e with e _
   subst e
   have hsw:(T.hs k h).length=ss.length:=by rw [hlen,hs]
   exact Yhj (sg:=fun m=>ss.getD m 0) HS HPS rfl ⟨by omega,hbo.len⟩ HWR HFT HWY HTH HLF HGR HKP HKM HNO HHO HMA HOT HDR HND HKD0 HKY0 (fun w=>by rw [Zdj k k hK.1 hK.1 w,decide_eq_true rfl]) hsw
  ·rw [f1] at e
   injection e with e _
   injection e with e _
   subst e
   have hky:Key k:=((Zau W T h r.tree).ent (k,b) (Zeb K T (k,b) (by rw [f1];simp))).1
   have hsn:ss.length=c+1:=by rw [hs,Zdg _ _ _ e4]
   have hfc:T.fin K h=ss.getD c 0:=by rw [hs,Zmk _ _ _ e4]
   have hz0:∀m,(T.hs K h).length≤m→m<c→ss.getD m 0=0:=fun m h1 h2=>by rw [hs,Zsv _ _ _ _ (by rw [← hlen];exact h1) h2]
   exact Ykk (sg:=fun m=>ss.getD m 0) HS HPS rfl ⟨by omega,hbo.len⟩ HWR HFT HWY HTH HLF HGR HKP HKM HNO HHO HMA HOT HDR HND HKD0 ⟨by omega,hsn,hz0⟩ (by show (T.fin K h:Int)=_;rw [hfc]) (by show ss.getD c 0≠0;omega) HKY0 (fun w'=>Zgw K k c w' hK hky e3) (fun w=>by rw [Zdj k K hky.1 hK.1 w,decide_eq_false e2])
end
end Go.Proofs.YtgfdgjkbcdmboaaGreatDoor
namespace Go.Proofs.YtgfdgjkbcdmboaaGreatDoor
set_option maxRecDepth 20000
open Go.RowKit
set_option maxHeartbeats 4000000 in
theorem Yhp {w:World} {q:Nat} {rt:Int} {K:List Int} {u:Value} {wn:Nat} {fi:Int}
  (HPS:Hid ((Tryz.prog.info? 34).map (·.size)=some (B K).size)) (hwn:wn≤256)
  (HWR:Hid (∀w',Below w.heap.size w w'→Calls Tryz.prog 190 #[.pointer (some ⟨q,0,none⟩),.int .i64 rt,u] w' fun e w''=>e=.returned (.int .i64 0)∧Below w'.heap.size w' w''))
  (HWY:Hid (∀w',Below w.heap.size w w'→Calls Tryz.prog 46 #[.pointer (some ⟨q,0,none⟩),.int .i64 rt,.agg (B K)] w' fun e w''=>∃a c,e=.returned (.tuple #[.slice a wn c,.int .i64 fi])∧Below w'.heap.size w' w''))
  (HTH:Hid (∀w',Below w.heap.size w w'→Calls Tryz.prog 191 #[.pointer (some ⟨q,0,none⟩),.int .i64 fi,.agg (B K),u] w' fun e w''=>e=.returned (.bool true)∧Below w'.heap.size w' w'')):Calls Tryz.prog 153 #[.pointer (some ⟨q,0,none⟩),.int .i64 rt,.agg (B K),u] w fun e w'=>e=.returned (.tuple #[.int .i64 0,.int .i64 0])∧Below w.heap.size w w':=by
 have HPL:Hid ((Tryz.prog.info? 34).map (·.size)=some (B K).toList.length):=by show _=_;rw [Array.length_toList];exact HPS.out
 have hw1:wrap64 (1+(wn:Int))=1+(wn:Int):=Go.IntWalk.wrap64_in _ (by omega)
 clear HPL hw1 hwn
 go_enter Tryz.func153,Tryz.ntmps153
 go_wp2_with (first
  |((with_reducible refine Zo 6 ?_);refine Zc _ rfl _ _ rfl _ rfl ?_;intro w1 b6 hg6 hl6 B6 q6;have HB1:=Za B6;have HQ1:=Za q6;clear hg6 hl6 B6 q6)
  |(go_at_call 190;refine (HWR.out _ HQ1.out).mono ?_;rintro e w2 ⟨rfl,b2⟩;have HQ2:=Za (Zb HQ1.out b2);have HB2:=Za (HB1.out.grow b2);clear b2)
  |((with_reducible refine Zk 24 6 ?_);refine Zh _ rfl _ _ rfl b6 _ rfl HB2.out _ _ Tryz.underlying34 HPS.out ?_)
  |(go_at_call 46;refine (HWY.out _ HQ2.out).mono ?_;rintro e w4 ⟨wa,wc,rfl,b4⟩;have HQ4:=Za (Zb HQ2.out b4);have HB4:=Za (HB2.out.grow b4);clear b4)
  |((with_reducible refine Zk 30 6 ?_);refine Zh _ rfl _ _ rfl b6 _ rfl HB4.out _ _ Tryz.underlying34 HPS.out ?_)
  |(go_at_call 191;refine (HTH.out _ HQ4.out).mono ?_;rintro e w5 ⟨rfl,b5⟩;have HQ5:=Za (Zb HQ4.out b5);have HB5:=Za (HB4.out.grow b5);clear b5))
 go_ret2
 exact ⟨rfl,HQ5.out⟩
set_option maxHeartbeats 4000000 in
theorem Ycq {w:World} {q:Nat} {rt:Int} {K:List Int} {u:Value} {wn:Nat} {fi:Int}
  (HPS:Hid ((Tryz.prog.info? 34).map (·.size)=some (B K).size)) (hwn:wn≤256)
  (HWR:Hid (∀w',Below w.heap.size w w'→Calls Tryz.prog 190 #[.pointer (some ⟨q,0,none⟩),.int .i64 rt,u] w' fun e w''=>e=.returned (.int .i64 0)∧Below w'.heap.size w' w''))
  (HWY:Hid (∀w',Below w.heap.size w w'→Calls Tryz.prog 46 #[.pointer (some ⟨q,0,none⟩),.int .i64 rt,.agg (B K)] w' fun e w''=>∃a c,e=.returned (.tuple #[.slice a wn c,.int .i64 fi])∧Below w'.heap.size w' w''))
  (HTH:Hid (∀w',Below w.heap.size w w'→Calls Tryz.prog 191 #[.pointer (some ⟨q,0,none⟩),.int .i64 fi,.agg (B K),u] w' fun e w''=>e=.returned (.bool false)∧Below w'.heap.size w' w''))
  (HKD:Hid (∀w',Below w.heap.size w w'→Calls Tryz.prog 48 #[.pointer (some ⟨q,0,none⟩),.int .i64 fi] w' fun e w''=>e=.returned (.int .u8 0)∧Below w'.heap.size w' w'')):Calls Tryz.prog 153 #[.pointer (some ⟨q,0,none⟩),.int .i64 rt,.agg (B K),u] w fun e w'=>e=.returned (.tuple #[.int .i64 ((1+wn:Nat):Int),.int .i64 0])∧Below w.heap.size w w':=by
 have HPL:Hid ((Tryz.prog.info? 34).map (·.size)=some (B K).toList.length):=by show _=_;rw [Array.length_toList];exact HPS.out
 have hw1:wrap64 (1+(wn:Int))=1+(wn:Int):=Go.IntWalk.wrap64_in _ (by omega)
 go_enter Tryz.func153,Tryz.ntmps153
 go_wp2_with (first
  |((with_reducible refine Zo 6 ?_);refine Zc _ rfl _ _ rfl _ rfl ?_;intro w1 b6 hg6 hl6 B6 q6;have HB1:=Za B6;have HQ1:=Za q6;clear hg6 hl6 B6 q6)
  |(go_at_call 190;refine (HWR.out _ HQ1.out).mono ?_;rintro e w2 ⟨rfl,b2⟩;have HQ2:=Za (Zb HQ1.out b2);have HB2:=Za (HB1.out.grow b2);clear b2)
  |((with_reducible refine Zk 24 6 ?_);refine Zh _ rfl _ _ rfl b6 _ rfl HB2.out _ _ Tryz.underlying34 HPS.out ?_)
  |(go_at_call 46;refine (HWY.out _ HQ2.out).mono ?_;rintro e w4 ⟨wa,wc,rfl,b4⟩;have HQ4:=Za (Zb HQ2.out b4);have HB4:=Za (HB2.out.grow b4);clear b4)
  |((with_reducible refine Zk 30 6 ?_);refine Zh _ rfl _ _ rfl b6 _ rfl HB4.out _ _ Tryz.underlying34 HPS.out ?_)
  |(go_at_call 191;refine (HTH.out _ HQ4.out).mono ?_;rintro e w5 ⟨rfl,b5⟩;have HQ5:=Za (Zb HQ4.out b5);have HB5:=Za (HB4.out.grow b5);clear b5))
 clear HWR HWY HTH HB1 HB2 HB4 HQ1 HQ2 HQ4
 refine wp_region_held_drew (S:=fun w'=>Below w5.heap.size w5 w') (by kernel_rfl) (below_drewN (Below.refl _ _) 1) (fun hHeld=>?_)
 refine tkp 0 (.pointer (some ⟨q,0,none⟩)) hHeld ?_
 simp only [zq]
 refine tkp 1 (.int .i64 fi) hHeld ?_
 simp only [zq]
 refine wpAnyH_ready (rs:=[2]) (by kernel_rfl) (by simp) ?_
 refine AllReadyH.cons rfl (fun KQ hK=>?_) AllReadyH.nil
 go_simp
 refine (HKD.out _ (Zb HQ5.out hHeld)).mono ?_
 rintro e z1 ⟨rfl,a1⟩
 refine hK.out _ _ (Zb hHeld a1) (fun hHeld=>?_)
 clear hK KQ
 refine tkp 3 (.bool false) hHeld ?_
 simp only [zq]
 refine tkp 4 (.bool false) hHeld ?_
 simp only [zq]
 refine tks 5 hHeld ?_
 simp only [zq]
 refine tks 6 hHeld ?_
 simp only [zq]
 refine tks 7 hHeld ?_
 simp only [zq]
 refine tks 8 hHeld ?_
 simp only [zq]
 refine tks 9 hHeld ?_
 simp only [zq]
 refine tkp 10 (.bool false) hHeld ?_
 simp only [zq]
 refine wpAnyH_done (by kernel_rfl) ?_ _
 have HH:=Za hHeld
 clear hHeld
 go_wp2_with fail
 go_ret2
 exact ⟨by rfl,Zb HQ5.out HH.out⟩
set_option maxHeartbeats 4000000 in
theorem Ycp {w:World} {q:Nat} {rt:Int} {K:List Int} {u:Value} {wn:Nat} {fi:Int}
  (HPS:Hid ((Tryz.prog.info? 34).map (·.size)=some (B K).size)) (hwn:wn≤256)
  (HWR:Hid (∀w',Below w.heap.size w w'→Calls Tryz.prog 190 #[.pointer (some ⟨q,0,none⟩),.int .i64 rt,u] w' fun e w''=>e=.returned (.int .i64 0)∧Below w'.heap.size w' w''))
  (HWY:Hid (∀w',Below w.heap.size w w'→Calls Tryz.prog 46 #[.pointer (some ⟨q,0,none⟩),.int .i64 rt,.agg (B K)] w' fun e w''=>∃a c,e=.returned (.tuple #[.slice a wn c,.int .i64 fi])∧Below w'.heap.size w' w''))
  (HTH:Hid (∀w',Below w.heap.size w w'→Calls Tryz.prog 191 #[.pointer (some ⟨q,0,none⟩),.int .i64 fi,.agg (B K),u] w' fun e w''=>e=.returned (.bool false)∧Below w'.heap.size w' w''))
  (HKD:Hid (∀w',Below w.heap.size w w'→Calls Tryz.prog 48 #[.pointer (some ⟨q,0,none⟩),.int .i64 fi] w' fun e w''=>e=.returned (.int .u8 1)∧Below w'.heap.size w' w'')) (HKY:Hid (∀w',Below w.heap.size w w'→Calls Tryz.prog 95 #[.pointer (some ⟨q,0,none⟩),.int .i64 fi] w' fun e w''=>e=.returned (.agg (B K))∧Below w'.heap.size w' w'')) (hEK:∀w,(Op.equalIn 10000 34 (.agg (B K)) (.agg (B K))).run Tryz.prog w=.ok true w):Calls Tryz.prog 153 #[.pointer (some ⟨q,0,none⟩),.int .i64 rt,.agg (B K),u] w fun e w'=>e=.returned (.tuple #[.int .i64 ((1+wn:Nat):Int),.int .i64 0])∧Below w.heap.size w w':=by
 have HPL:Hid ((Tryz.prog.info? 34).map (·.size)=some (B K).toList.length):=by show _=_;rw [Array.length_toList];exact HPS.out
 have hw1:wrap64 (1+(wn:Int))=1+(wn:Int):=Go.IntWalk.wrap64_in _ (by omega)
 go_enter Tryz.func153,Tryz.ntmps153
 go_wp2_with (first
  |((with_reducible refine Zo 6 ?_);refine Zc _ rfl _ _ rfl _ rfl ?_;intro w1 b6 hg6 hl6 B6 q6;have HB1:=Za B6;have HQ1:=Za q6;clear hg6 hl6 B6 q6)
  |(go_at_call 190;refine (HWR.out _ HQ1.out).mono ?_;rintro e w2 ⟨rfl,b2⟩;have HQ2:=Za (Zb HQ1.out b2);have HB2:=Za (HB1.out.grow b2);clear b2)
  |((with_reducible refine Zk 24 6 ?_);refine Zh _ rfl _ _ rfl b6 _ rfl HB2.out _ _ Tryz.underlying34 HPS.out ?_)
  |(go_at_call 46;refine (HWY.out _ HQ2.out).mono ?_;rintro e w4 ⟨wa,wc,rfl,b4⟩;have HQ4:=Za (Zb HQ2.out b4);have HB4:=Za (HB2.out.grow b4);clear b4)
  |((with_reducible refine Zk 30 6 ?_);refine Zh _ rfl _ _ rfl b6 _ rfl HB4.out _ _ Tryz.underlying34 HPS.out ?_)
  |(go_at_call 191;refine (HTH.out _ HQ4.out).mono ?_;rintro e w5 ⟨rfl,b5⟩;have HQ5:=Za (Zb HQ4.out b5);have HB5:=Za (HB4.out.grow b5);clear b5))
 clear HWR HWY HTH HB1 HB2 HB4 HQ1 HQ2 HQ4
 refine wp_region_held_drew (S:=fun w'=>Below w5.heap.size w5 w') (by kernel_rfl) (below_drewN (Below.refl _ _) 1) (fun hHeld=>?_)
 refine tkp 0 (.pointer (some ⟨q,0,none⟩)) hHeld ?_
 simp only [zq]
 refine tkp 1 (.int .i64 fi) hHeld ?_
 simp only [zq]
 refine wpAnyH_ready (rs:=[2]) (by kernel_rfl) (by simp) ?_
 refine AllReadyH.cons rfl (fun KQ hK=>?_) AllReadyH.nil
 go_simp
 refine (HKD.out _ (Zb HQ5.out hHeld)).mono ?_
 rintro e z1 ⟨rfl,a1⟩
 refine hK.out _ _ (Zb hHeld a1) (fun hHeld=>?_)
 clear hK KQ
 refine tkp 3 (.bool true) hHeld ?_
 simp only [zq]
 refine tkp 4 (.bool true) hHeld ?_
 simp only [zq]
 refine tkp 5 (.pointer (some ⟨q,0,none⟩)) hHeld ?_
 simp only [zq]
 refine tkp 6 (.int .i64 fi) hHeld ?_
 simp only [zq]
 refine tkg 8 (.agg (B K)) rfl (yieldsIf_load_mid rfl 34 (.tmp 6) rfl b6 0 rfl (B K).toList _ (fun w hS=>(HB5.out.grow hS).range) Tryz.underlying34 rfl HPL.out) hHeld ?_
 simp only [zq]
 refine wpAnyH_ready (rs:=[7]) (by kernel_rfl) (by simp) ?_
 refine AllReadyH.cons rfl (fun KQ hK=>?_) AllReadyH.nil
 go_simp
 refine (HKY.out _ (Zb HQ5.out hHeld)).mono ?_
 rintro e z2 ⟨rfl,a2⟩
 refine hK.out _ _ (Zb hHeld a2) (fun hHeld=>?_)
 clear hK KQ
 refine tkp 9 (.bool false) hHeld ?_
 simp only [zq]
 refine tkp 10 (.bool false) hHeld ?_
 simp only [zq]
 refine wpAnyH_done (by kernel_rfl) ?_ _
 have HH:=Za hHeld
 clear hHeld
 go_wp2_with fail
 go_ret2
 exact ⟨by rfl,Zb HQ5.out HH.out⟩
set_option maxHeartbeats 4000000 in
theorem Yhq {w:World} {q:Nat} {rt:Int} {K:List Int} {u:Value} {wn:Nat} {fi:Int}
  (HPS:Hid ((Tryz.prog.info? 34).map (·.size)=some (B K).size)) (hwn:wn≤256)
  (HWR:Hid (∀w',Below w.heap.size w w'→Calls Tryz.prog 190 #[.pointer (some ⟨q,0,none⟩),.int .i64 rt,u] w' fun e w''=>e=.returned (.int .i64 0)∧Below w'.heap.size w' w''))
  (HWY:Hid (∀w',Below w.heap.size w w'→Calls Tryz.prog 46 #[.pointer (some ⟨q,0,none⟩),.int .i64 rt,.agg (B K)] w' fun e w''=>∃a c,e=.returned (.tuple #[.slice a wn c,.int .i64 fi])∧Below w'.heap.size w' w''))
  (HTH:Hid (∀w',Below w.heap.size w w'→Calls Tryz.prog 191 #[.pointer (some ⟨q,0,none⟩),.int .i64 fi,.agg (B K),u] w' fun e w''=>e=.returned (.bool false)∧Below w'.heap.size w' w''))
  (HKD:Hid (∀w',Below w.heap.size w w'→Calls Tryz.prog 48 #[.pointer (some ⟨q,0,none⟩),.int .i64 fi] w' fun e w''=>e=.returned (.int .u8 1)∧Below w'.heap.size w' w'')) {ky:List Int} {c:Nat} (hc:wn≤c∧c<256) (HKY:Hid (∀w',Below w.heap.size w w'→Calls Tryz.prog 95 #[.pointer (some ⟨q,0,none⟩),.int .i64 fi] w' fun e w''=>e=.returned (.agg (B ky))∧Below w'.heap.size w' w'')) (HCM:Hid (∀w',Calls Tryz.prog 192 #[.agg (B K),.agg (B ky)] w' fun e w''=>e=.returned (.int .i64 (c:Int))∧Below w'.heap.size w' w'')) (hEK:∀w,(Op.equalIn 10000 34 (.agg (B ky)) (.agg (B K))).run Tryz.prog w=.ok false w):Calls Tryz.prog 153 #[.pointer (some ⟨q,0,none⟩),.int .i64 rt,.agg (B K),u] w fun e w'=>e=.returned (.tuple #[.int .i64 ((1+(c+1):Nat):Int),.int .i64 0])∧Below w.heap.size w w':=by
 have HPL:Hid ((Tryz.prog.info? 34).map (·.size)=some (B K).toList.length):=by show _=_;rw [Array.length_toList];exact HPS.out
 have hw1:wrap64 (1+(wn:Int))=1+(wn:Int):=Go.IntWalk.wrap64_in _ (by omega)
 obtain ⟨hc1,hc2⟩:=hc
 have hw2:IntKind.i64.wrap (1+(wn:Int)+(c:Int))=1+(wn:Int)+(c:Int):=(Go.IntWalk.i64_left _).trans (Go.IntWalk.wrap64_in _ (by omega))
 have hw3:IntKind.i64.wrap (1+(wn:Int)+(c:Int)-(wn:Int))=1+(c:Int):=(Go.IntWalk.i64_left _).trans ((Go.IntWalk.wrap64_in _ (by omega)).trans (by omega))
 have hw4:IntKind.i64.wrap (1+(c:Int)+1)=((1+(c+1):Nat):Int):=(Go.IntWalk.i64_left _).trans ((Go.IntWalk.wrap64_in _ (by omega)).trans (by omega))
 go_enter Tryz.func153,Tryz.ntmps153
 go_wp2_with (first
  |((with_reducible refine Zo 6 ?_);refine Zc _ rfl _ _ rfl _ rfl ?_;intro w1 b6 hg6 hl6 B6 q6;have HB1:=Za B6;have HQ1:=Za q6;clear hg6 hl6 B6 q6)
  |(go_at_call 190;refine (HWR.out _ HQ1.out).mono ?_;rintro e w2 ⟨rfl,b2⟩;have HQ2:=Za (Zb HQ1.out b2);have HB2:=Za (HB1.out.grow b2);clear b2)
  |((with_reducible refine Zk 24 6 ?_);refine Zh _ rfl _ _ rfl b6 _ rfl HB2.out _ _ Tryz.underlying34 HPS.out ?_)
  |(go_at_call 46;refine (HWY.out _ HQ2.out).mono ?_;rintro e w4 ⟨wa,wc,rfl,b4⟩;have HQ4:=Za (Zb HQ2.out b4);have HB4:=Za (HB2.out.grow b4);clear b4)
  |((with_reducible refine Zk 30 6 ?_);refine Zh _ rfl _ _ rfl b6 _ rfl HB4.out _ _ Tryz.underlying34 HPS.out ?_)
  |(go_at_call 191;refine (HTH.out _ HQ4.out).mono ?_;rintro e w5 ⟨rfl,b5⟩;have HQ5:=Za (Zb HQ4.out b5);have HB5:=Za (HB4.out.grow b5);clear b5))
 clear HWR HWY HTH HB1 HB2 HB4 HQ1 HQ2 HQ4
 refine wp_region_held_drew (S:=fun w'=>Below w5.heap.size w5 w') (by kernel_rfl) (below_drewN (Below.refl _ _) 1) (fun hHeld=>?_)
 refine tkp 0 (.pointer (some ⟨q,0,none⟩)) hHeld ?_
 simp only [zq]
 refine tkp 1 (.int .i64 fi) hHeld ?_
 simp only [zq]
 refine wpAnyH_ready (rs:=[2]) (by kernel_rfl) (by simp) ?_
 refine AllReadyH.cons rfl (fun KQ hK=>?_) AllReadyH.nil
 go_simp
 refine (HKD.out _ (Zb HQ5.out hHeld)).mono ?_
 rintro e z1 ⟨rfl,a1⟩
 refine hK.out _ _ (Zb hHeld a1) (fun hHeld=>?_)
 clear hK KQ
 refine tkp 3 (.bool true) hHeld ?_
 simp only [zq]
 refine tkp 4 (.bool true) hHeld ?_
 simp only [zq]
 refine tkp 5 (.pointer (some ⟨q,0,none⟩)) hHeld ?_
 simp only [zq]
 refine tkp 6 (.int .i64 fi) hHeld ?_
 simp only [zq]
 refine tkg 8 (.agg (B K)) rfl (yieldsIf_load_mid rfl 34 (.tmp 6) rfl b6 0 rfl (B K).toList _ (fun w hS=>(HB5.out.grow hS).range) Tryz.underlying34 rfl HPL.out) hHeld ?_
 simp only [zq]
 refine wpAnyH_ready (rs:=[7]) (by kernel_rfl) (by simp) ?_
 refine AllReadyH.cons rfl (fun KQ hK=>?_) AllReadyH.nil
 go_simp
 refine (HKY.out _ (Zb HQ5.out hHeld)).mono ?_
 rintro e z2 ⟨rfl,a2⟩
 refine hK.out _ _ (Zb hHeld a2) (fun hHeld=>?_)
 clear hK KQ
 refine tkp 9 (.bool true) hHeld ?_
 simp only [zq]
 refine tkp 10 (.bool true) hHeld ?_
 simp only [zq]
 refine wpAnyH_done (by kernel_rfl) ?_ _
 have HH:=Za hHeld
 clear hHeld
 go_wp2_with fail
 refine wp_region_held_drew (S:=fun w'=>Below w5.heap.size w5 w') (by kernel_rfl) (Zb HH.out (below_drewN (Below.refl _ _) 1)) (fun hHeld=>?_)
 refine tkp 0 (.int .i64 (1+(wn:Int))) hHeld ?_
 simp only [zq]
 refine tkg 1 (.agg (B K)) rfl (yieldsIf_load_mid rfl 34 (.tmp 6) rfl b6 0 rfl (B K).toList _ (fun w hS=>(HB5.out.grow hS).range) Tryz.underlying34 rfl HPL.out) hHeld ?_
 simp only [zq]
 refine tkp 2 (.pointer (some ⟨q,0,none⟩)) hHeld ?_
 simp only [zq]
 refine tkp 3 (.int .i64 fi) hHeld ?_
 simp only [zq]
 refine tkp 7 (.slice wa wn wc) hHeld ?_
 simp only [zq]
 refine tkp 8 (.int .i64 (wn:Int)) hHeld ?_
 simp only [zq]
 refine wpAnyH_ready (rs:=[4]) (by kernel_rfl) (by simp) ?_
 refine AllReadyH.cons rfl (fun KQ hK=>?_) AllReadyH.nil
 go_simp
 refine (HKY.out _ (Zb HQ5.out hHeld)).mono ?_
 rintro e z3 ⟨rfl,a3⟩
 refine hK.out _ _ (Zb hHeld a3) (fun hHeld=>?_)
 clear hK KQ
 refine wpAnyH_ready (rs:=[5]) (by kernel_rfl) (by simp) ?_
 refine AllReadyH.cons rfl (fun KQ hK=>?_) AllReadyH.nil
 go_simp
 refine (HCM.out _).mono ?_
 rintro e z4 ⟨rfl,a4⟩
 refine hK.out _ _ (Zb hHeld a4) (fun hHeld=>?_)
 clear hK KQ
 refine tkp 6 (.int .i64 (1+(wn:Int)+(c:Int))) hHeld ?_
 simp only [zq]
 refine tkp 9 (.int .i64 (1+(c:Int))) hHeld ?_
 simp only [zq]
 refine tkp 10 (.int .i64 ((1+(c+1):Nat):Int)) hHeld ?_
 simp only [zq]
 refine tkp 11 (.int .i64 ((1+(c+1):Nat):Int)) hHeld ?_
 simp only [zq]
 refine wpAnyH_done (by kernel_rfl) ?_ _
 go_wp2_with fail
 go_ret2
 exact ⟨rfl,Zb HQ5.out hHeld⟩
set_option maxHeartbeats 1000000 in
theorem Zxo {w0 w:World} {S0:List Nat} {q room:Nat} {cs:List (Nat×Ce)} {fr:List Nat} (V:Hr w0 S0 w q room cs fr) (h:Int) (K:List Int) (u:Value) (bs:List Int) (hu:Reads w u bs) (e0:Int) (he:vRf true (cot cs h) (cat cs h) h bs.length=e0) (h0:e0≠0):Calls Tryz.prog 153 #[.pointer (some ⟨q,0,none⟩),.int .i64 h,.agg (B K),u] w fun e w'=>e=.returned (.tuple #[.int .i64 0,.int .i64 e0])∧Below w.heap.size w w':=by
 obtain ⟨a,c,rfl,_⟩:=hu
 have HRF:Hid (∀w',Below w.heap.size w w'→Calls Tryz.prog 190 #[.pointer (some ⟨q,0,none⟩),.int .i64 h,.slice a bs.length c] w' fun e w''=>e=.returned (.int .i64 e0)∧Below w'.heap.size w' w''):=fun w' hb=>by
  have:=Zgs (V.grow hb) h a bs.length c
  rwa [he] at this
 have hb0:(e0 != 0)=true:=by simpa using h0
 generalize bs.length=n at HRF ⊢
 clear V he h0
 go_enter Tryz.func153,Tryz.ntmps153
 go_wp2_with (first
  |((with_reducible refine Zo 6 ?_);refine Zc _ rfl _ _ rfl _ rfl ?_;intro w1 b5 hg5 hl5 B5 q5;have HQ5:=Za q5;clear hg5 hl5 B5 q5)
  |(go_at_call 190;refine (HRF.out _ HQ5.out).mono ?_;rintro e w2 ⟨rfl,b2⟩;have HQ2:=Za (Zb HQ5.out b2);clear b2))
 go_ret2
 exact ⟨rfl,HQ2.out⟩
theorem Zxp {w0 w:World} {S0:List Nat} {q room:Nat} {cs:List (Nat×Ce)} {fr:List Nat} (V:Hr w0 S0 w q room cs fr) (h5:room≤5000) {h:Nat} {T:Tre} (r:Rt cs h T) {K:List Int} (hK:Key K) {u:Value} {bs:List Int} (hu:Reads w u bs) (hl:bs.length≤1024) {ss:List Nat} (hss:BesIs K T h ss):Calls Tryz.prog 153 #[.pointer (some ⟨q,0,none⟩),.int .i64 (h:Int),.agg (B K),u] w fun e w'=>e=.returned (.tuple #[.int .i64 (costN T K bs ss:Int),.int .i64 0])∧Below w.heap.size w w':=by
 have W:=V.wf
 have hlen:=Tre.hs_oth K T h
 have HPS:Hid ((Tryz.prog.info? 34).map (·.size)=some (B K).size):=by show _=_;rw [Zm,hK.1];exact Zj
 have HWR:Hid (∀w',Below w.heap.size w w'→Calls Tryz.prog 190 #[.pointer (some ⟨q,0,none⟩),.int .i64 (h:Int),u] w' fun e w''=>e=.returned (.int .i64 0)∧Below w'.heap.size w' w''):=fun w' hb=>by
  obtain ⟨a,c,hue,_⟩:=hu
  have:=Zgs (V.grow hb) (h:Int) a bs.length c
  rw [r.refuse hl] at this
  rw [hue]
  exact this
 have HWY:Hid (∀w',Below w.heap.size w w'→Calls Tryz.prog 46 #[.pointer (some ⟨q,0,none⟩),.int .i64 (h:Int),.agg (B K)] w' fun e w''=>∃a c,e=.returned (.tuple #[.slice a (T.hs K h).length c,.int .i64 (T.fin K h:Int)])∧Below w'.heap.size w' w''):=fun w' hb=>(Yhc (V.grow hb) h T r.tree K hK r.dp).mono fun e w'' ⟨a,c,e1,_,b⟩=>⟨a,c,e1,b⟩
 have HTH:=fun w' (hb:Below w.heap.size w w')=>Zpe (V.grow hb) h5 (T.fin K h:Int) K hK u bs (hu.grow hb)
 have hwn:(T.hs K h).length≤256:=by
  have:=(Zcy W K T h 0 r.tree r.dp (by omega)).2.2
  omega
 by_cases hsm:T.efin K=[(K,bs)]
 ·rw [Zvw r.tree hsm] at HTH
  rw [costN,if_pos hsm]
  exact Yhp HPS hwn HWR HWY HTH
 ·rw [Yfo r.tree hsm] at HTH
  rw [costN,if_neg hsm]
  have HKD:Hid (∀w',Below w.heap.size w w'→Calls Tryz.prog 48 #[.pointer (some ⟨q,0,none⟩),.int .i64 (T.fin K h:Int)] w' fun e w''=>e=.returned (.int .u8 (cat cs (T.fin K h:Int)).kind)∧Below w'.heap.size w' w''):=fun w' hb=>Zmg (V.grow hb) _
  have HKY:Hid (∀w',Below w.heap.size w w'→Calls Tryz.prog 95 #[.pointer (some ⟨q,0,none⟩),.int .i64 (T.fin K h:Int)] w' fun e w''=>e=.returned (.agg (B (cat cs (T.fin K h:Int)).key))∧Below w'.heap.size w' w''):=fun w' hb=>Zyy (V.grow hb) h5 _
  rcases Zen K T h r.tree with ⟨f1,f2⟩ | ⟨k,b,f1,f2,f3,f4,f5,f6⟩
  ·have hsl:ss=T.oth K:=by
    rcases hss with ⟨_,e⟩ | ⟨b,e,_⟩ | ⟨k,b,c,e,_⟩
    ·exact e
    ·rw [f2] at e;cases e
    ·rw [f2] at e;cases e
   have hk0:(cat cs (T.fin K h:Int)).kind=0:=by rw [f1];rfl
   rw [hk0] at HKD
   rw [hsl,← hlen]
   exact Ycq HPS hwn HWR HWY HTH HKD
  ·rw [Zdf f2] at HKD HKY
   rw [f4] at HKD
   rw [f5] at HKY
   rcases hss with ⟨e,_⟩ | ⟨b',e,hs⟩ | ⟨k',b',c,e,e2,e3,e4,e5,hs⟩
   ·rw [f1] at e;cases e
   ·rw [f1] at e
    injection e with e _
    injection e with e _
    subst e
    rw [hs,← hlen]
    exact Ycp HPS hwn HWR HWY HTH HKD HKY (fun w=>by rw [Zdj k k hK.1 hK.1 w,decide_eq_true rfl])
   ·rw [f1] at e
    injection e with e _
    injection e with e _
    subst e
    have hky:Key k:=((Zau W T h r.tree).ent (k,b) (Zeb K T (k,b) (by rw [f1];simp))).1
    rw [hs,Zdg _ _ _ e4]
    exact Yhq HPS hwn HWR HWY HTH HKD ⟨by omega,e5⟩ HKY (fun w'=>Zgw K k c w' hK hky e3) (fun w=>by rw [Zdj k K hky.1 hK.1 w,decide_eq_false e2])
end Go.Proofs.YtgfdgjkbcdmboaaGreatDoor
namespace Go.Proofs.YtgfdgjkbcdmboaaGreatDoor
set_option maxRecDepth 20000
open Go.RowKit
def M7 (w0:World) (S:List Nat) (w:World) (g gs q room:Nat) (cs:List (Nat×Ce)) (fr:List Nat) (ss:List Sp) (fr2:List Nat):Prop:=∃vp vf vp2 vf2,Stm w g gs vp vf room cs fr∧Rs w q vp2 vf2 room ss fr2∧(∀k∈stB g gs vp vf cs,k ∉ rsB q vp2 vf2 ss)∧Mod S w0 w∧New S w0 (stB g gs vp vf cs)∧New S w0 (rsB q vp2 vf2 ss)
def P7 (w0:World) (S:List Nat) (w:World) (g gs q room:Nat) (cs:List (Nat×Ce)) (fr:List Nat):Prop:=∃ss,M7 w0 S w g gs q room cs fr ss fr∧Rel7 cs [] [] ss∧Wf cs []
def Two7 (w0:World) (S:List Nat) (g gs q room:Nat) (f:FuncId) (args:Array Value) (E:Ending) (cs':List (Nat×Ce)) (fr':List Nat) (w':World):Prop:=∃ss fr2,M7 w0 S w' g gs q room cs' fr' ss fr2∧∀w'',M7 w0 S w'' g gs q room cs' fr' ss fr2→Calls Tryz.prog f args w'' fun e w3=>e=E∧P7 w0 S w3 g gs q room cs' fr'
section
variable {w0 w:World} {S:List Nat} {g gs q room:Nat} {cs:List (Nat×Ce)} {fr:List Nat} {ss:List Sp} {fr2:List Nat}
theorem M7.mod (h:M7 w0 S w g gs q room cs fr ss fr2):Mod S w0 w:=by obtain ⟨_,_,_,_,_,_,_,m,_,_⟩:=h;exact m
theorem M7.grow {w':World} (h:M7 w0 S w g gs q room cs fr ss fr2) (hb:Below w.heap.size w w'):M7 w0 S w' g gs q room cs fr ss fr2:=by
 obtain ⟨vp,vf,vp2,vf2,s,d,ap,m,n1,n2⟩:=h
 exact ⟨vp,vf,vp2,vf2,s.grow hb,d.grow hb,ap,m.trans' (Mod.of_below hb S),n1,n2⟩
theorem M7.inv (h:M7 w0 S w g gs q room cs fr ss fr2):Inv room (cs.map pl) fr:=by
 obtain ⟨vp,vf,vp2,vf2,s,_⟩:=h
 exact s.sl.inv
theorem M7.useS {f:FuncId} {args:Array Value} {P:Ending→List (Nat×Ce)→List Nat→Prop} (h:M7 w0 S w g gs q room cs fr ss fr2) (hW:Wf cs []) (hc:∀S',Hs w S' w g gs room cs fr→(∀P:World→Prop,Kq S w0 P→Kq S' w P)→Calls Tryz.prog f args w fun e w'=>∃cs' fr',P e cs' fr'∧Hs w S' w' g gs room cs' fr'):Calls Tryz.prog f args w fun e w'=>∃cs' fr',P e cs' fr'∧Wf cs' []∧M7 w0 S w' g gs q room cs' fr' ss fr2:=by
 obtain ⟨vp,vf,vp2,vf2,s,d,ap,m,n1,n2⟩:=h
 refine (hc _ (Hs.here s hW) fun P k=>k.turn m n1).mono ?_
 rintro e w' ⟨cs',fr',hp,⟨vp',vf',s',m',n'⟩,W'⟩
 refine ⟨cs',fr',hp,W',vp',vf',vp2,vf2,s',d.mod m' (fun k hk hs=>ap k hs hk),fun k hk hk2=>?_,m.trans n1 m',n1.trans m.size n',n2⟩
 rcases n' k hk with e | e
 ·exact ap k e hk2
 ·have:=d.lts k hk2
  omega
theorem M7.useR {f:FuncId} {args:Array Value} {E:Ending} {cs1:List (Nat×Ce)} (h:M7 w0 S w g gs q room cs fr ss fr2) (R:Rel7 cs1 [] [] ss) (W:Wf cs1 []) (I:Inv room (cs1.map pl) fr2) (W':Wf cs []) (hc:∀S',Hr w S' w q room cs1 fr2→(∀P:World→Prop,Kq S w0 P→Kq S' w P)→Calls Tryz.prog f args w fun e w'=>e=E∧Hr w S' w' q room cs fr):Calls Tryz.prog f args w fun e w'=>e=E∧P7 w0 S w' g gs q room cs fr:=by
 obtain ⟨vp,vf,vp2,vf2,s,d,ap,m,n1,n2⟩:=h
 refine (hc _ (Hr.here d R W I) fun P k=>k.turn m n2).mono ?_
 rintro e w' ⟨e1,⟨ss',⟨vp',vf',d',m',n'⟩,R'⟩,_,_⟩
 refine ⟨e1,ss',⟨vp,vf,vp',vf',s.mod m' (fun k hk=>ap k hk),d',fun k hk hk2=>?_,m.trans n2 m',n1,n2.trans m.size n'⟩,R',W'⟩
 rcases n' k hk2 with e | e
 ·exact ap k hk e
 ·have:=s.lts k hk
  omega
theorem P7.grow {w':World} (h:P7 w0 S w g gs q room cs fr) (hb:Below w.heap.size w w'):P7 w0 S w' g gs q room cs fr:=by
 obtain ⟨ss,M,R,W⟩:=h
 exact ⟨ss,M.grow hb,R,W⟩
theorem P7.mod (h:P7 w0 S w g gs q room cs fr):Mod S w0 w:=by obtain ⟨ss,M,R,W⟩:=h;exact M.mod
theorem P7.kq {P:World→Prop} (h:P7 w0 S w g gs q room cs fr) (k:Kq S w0 P):P w:=k w h.mod
theorem P7.wf (h:P7 w0 S w g gs q room cs fr):Wf cs []:=by obtain ⟨ss,M,R,W⟩:=h;exact W
theorem P7.inv (h:P7 w0 S w g gs q room cs fr):Inv room (cs.map pl) fr:=by obtain ⟨ss,M,R,W⟩:=h;exact M.inv
theorem P7.hs (h:P7 w0 S w g gs q room cs fr):∃S',Hs w S' w g gs room cs fr:=by
 obtain ⟨ss,⟨vp,vf,vp2,vf2,s,_⟩,R,W⟩:=h
 exact ⟨_,Hs.here s W⟩
theorem P7.hr (h:P7 w0 S w g gs q room cs fr):∃S',Hr w S' w q room cs fr:=by
 have I:=h.inv
 obtain ⟨ss,⟨vp,vf,vp2,vf2,s,d,_⟩,R,W⟩:=h
 exact ⟨_,Hr.here d R W I⟩
theorem Two7.grow {f:FuncId} {args:Array Value} {E:Ending} {w':World} (h:Two7 w0 S g gs q room f args E cs fr w) (hb:Below w.heap.size w w'):Two7 w0 S g gs q room f args E cs fr w':=by
 obtain ⟨ss,fr2,M,h⟩:=h
 exact ⟨ss,fr2,M.grow hb,h⟩
theorem Two7.mod {f:FuncId} {args:Array Value} {E:Ending} (h:Two7 w0 S g gs q room f args E cs fr w):Mod S w0 w:=by obtain ⟨ss,fr2,M,h⟩:=h;exact M.mod
theorem Two7.kq {f:FuncId} {args:Array Value} {E:Ending} {P:World→Prop} (h:Two7 w0 S g gs q room f args E cs fr w) (k:Kq S w0 P):P w:=k w h.mod
theorem Two7.go {f:FuncId} {args:Array Value} {E:Ending} (h:Two7 w0 S g gs q room f args E cs fr w):Calls Tryz.prog f args w fun e w3=>e=E∧P7 w0 S w3 g gs q room cs fr:=by
 obtain ⟨ss,fr2,M,h⟩:=h
 exact h _ M
theorem P7.two {f f2:FuncId} {args args2:Array Value} {Q:Ending→List (Nat×Ce)→List Nat→Prop} (h:P7 w0 S w g gs q room cs fr) (hc:∀S',Hs w S' w g gs room cs fr→(∀P:World→Prop,Kq S w0 P→Kq S' w P)→Calls Tryz.prog f args w fun e w'=>∃cs' fr',Q e cs' fr'∧Hs w S' w' g gs room cs' fr') (hr:∀E cs' fr',Q E cs' fr'→∀w' S',Hr w' S' w' q room cs fr→Mod S w0 w'→(∀P:World→Prop,Kq S w0 P→Kq S' w' P)→Calls Tryz.prog f2 args2 w' fun e w''=>e=E∧Hr w' S' w'' q room cs' fr'):Calls Tryz.prog f args w fun e w'=>∃cs' fr',Q e cs' fr'∧Two7 w0 S g gs q room f2 args2 e cs' fr' w':=by
 have I:=h.inv
 obtain ⟨ss,M,R,W⟩:=h
 refine (M.useS W hc).mono ?_
 rintro e w' ⟨cs',fr',hq,W',M'⟩
 exact ⟨cs',fr',hq,ss,fr,M',fun w'' M2=>M2.useR R W I W' fun S' H hk=>hr e cs' fr' hq w'' S' H M2.mod hk⟩
theorem P7.stay {f f2:FuncId} {args args2:Array Value} {E:Ending} (h:P7 w0 S w g gs q room cs fr) (hc:∀S',Hs w S' w g gs room cs fr→Calls Tryz.prog f args w fun e w'=>e=E∧Hs w S' w' g gs room cs fr) (hr:∀w' S',Hr w' S' w' q room cs fr→Mod S w0 w'→Calls Tryz.prog f2 args2 w' fun e w''=>e=E∧Hr w' S' w'' q room cs fr):Calls Tryz.prog f args w fun e w'=>e=E∧Two7 w0 S g gs q room f2 args2 E cs fr w':=by
 refine (h.two (f2:=f2) (args2:=args2) (Q:=fun e cs' fr'=>e=E∧cs'=cs∧fr'=fr) (fun S' H _=>(hc S' H).mono fun e w' ⟨e1,k⟩=>⟨cs,fr,⟨e1,rfl,rfl⟩,k⟩) ?_).mono ?_
 ·rintro _ _ _ ⟨rfl,rfl,rfl⟩ w' S' H m _
  exact hr w' S' H m
 ·rintro e w' ⟨_,_,⟨rfl,rfl,rfl⟩,t⟩
  exact ⟨rfl,t⟩
theorem Znv (h:Hs w0 S w g gs room cs fr) (i:Nat) (hc:cc cs i=1073741824):Calls Tryz.prog 108 #[.pointer (some ⟨g,0,none⟩),.int .i64 ((i:Int)+1)] w fun e w'=>e=.returned (.int .i64 4)∧Hs w0 S w' g gs room cs fr:=by
 have hh:=h
 obtain ⟨⟨vp,vf,s,m,n⟩,W⟩:=h
 exact (Zug s i hc).mono fun e w' ⟨e1,b⟩=>⟨e1,b ▸ hh⟩
theorem Zly {cs:List (Nat×Ce)} (W:Wf cs []) {i:Nat} (hi:0<cc cs i) (j:Nat):Go.Proofs.YtgfdgjkbcdmboaaGreatDoor.own (moreC cs i) [] j=Go.Proofs.YtgfdgjkbcdmboaaGreatDoor.own cs [] j+(if i=j then 1 else 0):=by
 have:=W.le j
 rw [List.count_nil] at this
 unfold Go.Proofs.YtgfdgjkbcdmboaaGreatDoor.own
 rw [Zfa hi,Zda,List.count_nil]
 omega
end
end Go.Proofs.YtgfdgjkbcdmboaaGreatDoor
namespace Go.Proofs.YtgfdgjkbcdmboaaGreatDoor
set_option maxRecDepth 20000
open Go.RowKit
theorem Ynj {cs:List (Nat×Ce)} (W:Wf cs []) {x:Int} (h:vAh true (cot cs x) (cat cs x) x=0):∃(n:Nat) (T:Tre),x=(n:Int)∧Rt cs n T:=by
 unfold vAh at h
 by_cases hr:vRt true (cot cs x) (cat cs x) x=0
 ·rw [if_pos hr] at h
  by_cases h0:x=0
  ·exact ⟨0,.emp,h0,Rt.zero cs⟩
  ·have hc:cot cs x≠0:=fun e=>by
    unfold vRt at hr
    rw [if_pos rfl,if_neg h0,if_pos e] at hr
    omega
   have hab: ¬(cot cs x-(cat cs x).ab=0):=fun e=>by
    rw [if_pos ⟨h0,e⟩] at h
    omega
   obtain ⟨i,rfl,h2,h3,h4⟩:=Zfh (cs:=cs) (h:=x) (by omega)
   obtain ⟨T,hT⟩:=Zow W i h2
   have hr':vRt true (cot cs ((i+1:Nat):Int)) (cat cs ((i+1:Nat):Int)) ((i+1:Nat):Int)=0:=hr
   refine ⟨i+1,T,rfl,hT,Zxg hT hr',.inr ?_⟩
   rw [h3,h4] at hab
   show 0<Go.Proofs.YtgfdgjkbcdmboaaGreatDoor.own cs [] i
   unfold Go.Proofs.YtgfdgjkbcdmboaaGreatDoor.own
   rw [List.count_nil]
   omega
 ·rw [if_neg hr] at h
  exact absurd h hr
theorem Ykq {cs:List (Nat×Ce)} (W:Wf cs []) {x:Int} {n:Nat} (h:vRf true (cot cs x) (cat cs x) x n=0):n≤1024∧∃(k:Nat) (T:Tre),x=(k:Int)∧Rt cs k T:=by
 unfold vRf at h
 rw [if_pos rfl] at h
 by_cases hn:1024<n
 ·rw [if_pos hn] at h
  omega
 ·rw [if_neg hn] at h
  exact ⟨by omega,Ynj W h⟩
section
variable {w0 w:World} {S:List Nat} {g gs q room:Nat} {cs:List (Nat×Ce)} {fr:List Nat}
theorem Ylw (h:P7 w0 S w g gs q room cs fr) (h5:room≤5000) (hb:∀i,own cs [] i≤1000000) (x:Int) {K:List Int} (hK:Key K) {v:Value} {bs:List Int} (hv:Reads w v bs):∃y er:Int,∀w',Below w.heap.size w w'→(Calls Tryz.prog 152 #[.pointer (some ⟨g,0,none⟩),.int .i64 x,.agg (B K),v] w' fun e w''=>e=.returned (.tuple #[.int .i64 y,.int .i64 er])∧Below w'.heap.size w' w'')∧Calls Tryz.prog 153 #[.pointer (some ⟨q,0,none⟩),.int .i64 x,.agg (B K),v] w' fun e w''=>e=.returned (.tuple #[.int .i64 y,.int .i64 er])∧Below w'.heap.size w' w'':=by
 have W:=h.wf
 obtain ⟨S1,H⟩:=h.hs
 obtain ⟨S2,V⟩:=h.hr
 by_cases he:vRf true (cot cs x) (cat cs x) x bs.length=0
 ·obtain ⟨hl,n,T,rfl,r⟩:=Ykq W he
  obtain ⟨ss,hss,hbo⟩:=Zsu W K hK r.tree r.dp
  exact ⟨_,_,fun w' hw=>⟨Yew (H.grow hw) r hK (hv.grow hw) hl hb hss hbo.len,Zxp (V.grow hw) h5 r hK (hv.grow hw) hl hss⟩⟩
 ·refine ⟨_,_,fun w' hw=>⟨?_,Zxo (V.grow hw) x K v bs (hv.grow hw) _ rfl he⟩⟩
  obtain ⟨a,c,e,_⟩:=hv
  rw [e]
  exact Yev (H.vw.grow hw) x K a bs.length c _ rfl he
theorem Ylq (h:P7 w0 S w g gs q room cs fr) (h5:room≤5000) (j:Int):∃b:Bool,∀w',Below w.heap.size w w'→(Calls Tryz.prog 50 #[.pointer (some ⟨g,0,none⟩),.int .i64 j] w' fun e w''=>e=.returned (.bool b)∧Below w'.heap.size w' w'')∧Calls Tryz.prog 56 #[.pointer (some ⟨q,0,none⟩),.int .i64 j] w' fun e w''=>e=.returned (.bool b)∧Below w'.heap.size w' w'':=by
 obtain ⟨S1,H⟩:=h.hs
 obtain ⟨S2,V⟩:=h.hr
 exact ⟨_,fun w' hw=>⟨Zge (H.grow hw) j,Zrn (V.grow hw) h5 j⟩⟩
theorem Ylm (h:P7 w0 S w g gs q room cs fr) (j:Int):∃er:Int,∀w',Below w.heap.size w w'→(Calls Tryz.prog 42 #[.pointer (some ⟨g,0,none⟩),.int .i64 j] w' fun e w''=>e=.returned (.int .i64 er)∧Below w'.heap.size w' w'')∧Calls Tryz.prog 45 #[.pointer (some ⟨q,0,none⟩),.int .i64 j] w' fun e w''=>e=.returned (.int .i64 er)∧Below w'.heap.size w' w'':=by
 obtain ⟨S1,H⟩:=h.hs
 obtain ⟨S2,V⟩:=h.hr
 exact ⟨_,fun w' hw=>⟨Zky (H.vw.grow hw) j,Zrq (V.grow hw) j⟩⟩
end
end Go.Proofs.YtgfdgjkbcdmboaaGreatDoor
