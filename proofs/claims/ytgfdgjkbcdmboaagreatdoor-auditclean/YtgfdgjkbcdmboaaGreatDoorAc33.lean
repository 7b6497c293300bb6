/- What the document's store tells of a handle, as contracts. -/
import Derived.Test.YtgfdgjkbcdmboaaGreatDoorAc32
namespace Go.Proofs.YtgfdgjkbcdmboaaGreatDoor
set_option maxRecDepth 20000
open Go.RowKit
theorem Zea (T f ft off:Nat) (v:Value) (cs:Array Value) (fs:Array Field) (fd:Field) (hu:Tryz.prog.underlying T=some (.struct fs)) (hf:fs[f]?=some fd) (ht:fd.type=ft) (ho:fd.offset=off) (hag:∀w,(isAgg ft).run Tryz.prog w=.ok false w) (hc:cs[off]?=some v) (w:World):(Instr.field T (.agg cs) f).run Tryz.prog w=.ok v w:=by
 subst ht ho
 unfold Instr.field
 rw [Sem.run_bind,run_underlying hu w]
 simp only [Result.andThen_ok,hf]
 rw [Sem.run_bind]
 show (part fd.type cs fd.offset).run Tryz.prog w=_
 unfold part
 rw [Sem.run_bind,hag w]
 simp only [Result.andThen_ok,Bool.false_eq_true,if_false,hc]
 rfl
theorem Yej (T f ft off:Nat) (cs xs:List Value) (fs:Array Field) (fd:Field) (hu:Tryz.prog.underlying T=some (.struct fs)) (hf:fs[f]?=some fd) (ht:fd.type=ft) (ho:fd.offset=off) (hag:∀w,(isAgg ft).run Tryz.prog w=.ok true w) (hi:(Tryz.prog.info? ft).map (·.size)=some xs.length) (hx:(cs.drop off).take xs.length=xs) (w:World):(Instr.field T (.agg cs.toArray) f).run Tryz.prog w=.ok (.agg xs.toArray) w:=by
 subst ht ho
 cases hq:Tryz.prog.info? fd.type with
 | none=>simp [hq] at hi
 | some i=>
  have hz:i.size=xs.length:=by simpa [hq] using hi
  have hex:(cs.toArray).extract fd.offset (fd.offset+xs.length)=xs.toArray:=by
   apply Array.ext'
   simp only [Array.toList_extract,List.extract_eq_take_drop]
   rw [show fd.offset+xs.length-fd.offset=xs.length by omega]
   exact hx
  unfold Instr.field
  rw [Sem.run_bind,run_underlying hu w]
  simp only [Result.andThen_ok,hf]
  rw [Sem.run_bind]
  show (part fd.type cs.toArray fd.offset).run Tryz.prog w=_
  unfold part
  rw [Sem.run_bind,hag w]
  simp only [Result.andThen_ok,if_true]
  rw [Sem.run_bind]
  simp [sizeOf,typeInfo,hq,hz]
  simpa using hex
theorem Zqi {s:Sp} (h:SpOk s):∀w,(Instr.field 154 (.agg (sz7 s).toArray) 0).run Tryz.prog w=.ok (.int .u8 s.kind) w:=fun w=>Zea 154 0 90 0 _ _ _ _ Tryz.underlying154 rfl rfl rfl Zsx (by simpa using (Zbv s h.hk.1).1) w
theorem Ynn {s:Sp} (h:SpOk s):∀w,(Instr.field 154 (.agg (sz7 s).toArray) 1).run Tryz.prog w=.ok (.int .i64 (s.d:Int)) w:=fun w=>Zea 154 1 3 1 _ _ _ _ Tryz.underlying154 rfl rfl rfl Zhg (by simpa using (Zbv s h.hk.1).2.1) w
theorem Ynw {s:Sp} (h:SpOk s):∀w,(Instr.field 154 (.agg (sz7 s).toArray) 3).run Tryz.prog w=.ok (.int .i64 (s.l:Int)) w:=fun w=>Zea 154 3 3 35 _ _ _ _ Tryz.underlying154 rfl rfl rfl Zhg (by simpa using (Zbv s h.hk.1).2.2.2.1) w
theorem Ynv {s:Sp} (h:SpOk s):∀w,(Instr.field 154 (.agg (sz7 s).toArray) 4).run Tryz.prog w=.ok (.int .i64 (s.r:Int)) w:=fun w=>Zea 154 4 3 36 _ _ _ _ Tryz.underlying154 rfl rfl rfl Zhg (by simpa using (Zbv s h.hk.1).2.2.2.2.1) w
theorem Zoa {s:Sp} (h:SpOk s):∀w,(Instr.field 154 (.agg (sz7 s).toArray) 5).run Tryz.prog w=.ok (.int .i64 (s.own:Int)) w:=fun w=>Zea 154 5 3 37 _ _ _ _ Tryz.underlying154 rfl rfl rfl Zhg (by simpa using (Zbv s h.hk.1).2.2.2.2.2.1) w
theorem Ynf {s:Sp} (h:SpOk s):∀w,(Instr.field 154 (.agg (sz7 s).toArray) 6).run Tryz.prog w=.ok (.int .i64 (s.sd:Int)) w:=fun w=>Zea 154 6 3 38 _ _ _ _ Tryz.underlying154 rfl rfl rfl Zhg (by simpa using (Zbv s h.hk.1).2.2.2.2.2.2) w
theorem Yau:∀w,(isAgg 152).run Tryz.prog w=.ok true w:=fun w=>by kernel_rfl
theorem Yeo {s:Sp} (h:SpOk s):∀w,(Instr.field 154 (.agg (sz7 s).toArray) 2).run Tryz.prog w=.ok (.agg (encP s.key s.val).toArray) w:=fun w=>Yej 154 2 152 2 (sz7 s) (encP s.key s.val) _ _ Tryz.underlying154 rfl rfl rfl Yau (by rw [Zx _ _ h.hk.1];exact Zeg) (by unfold sz7;simp) w
theorem Yjc {k:List Int} {v:Value} (h:k.length=32):∀w,(Instr.field 152 (.agg (encP k v).toArray) 1).run Tryz.prog w=.ok v w:=fun w=>Zea 152 1 72 32 _ _ _ _ Tryz.underlying152 rfl rfl rfl Zon (by
 unfold encP
 rw [List.getElem?_toArray,List.getElem?_append_right (by simp [h])]
 simp [h]) w
set_option maxHeartbeats 400000 in
theorem Ykn {w:World} {g:Nat} {vp vf:Value} {room:Nat} {ss:List Sp} {fr:List Nat} (h:Rs w g vp vf room ss fr) (q:Int):Calls Tryz.prog 48 #[.pointer (some ⟨g,0,none⟩),.int .i64 q] w fun e w'=>e=.returned ((.int .u8 (sat ss q).kind))∧Below w.heap.size w w':=by
 have HA:Hid (∀w',Below w.heap.size w w'→Calls Tryz.prog 107 #[.pointer (some ⟨g,0,none⟩),.int .i64 q] w' fun e w''=>e=.returned (.agg (sz7 (sat ss q)).toArray)∧Below w'.heap.size w' w''):=fun w' hb=>Zbf (h.grow hb) q
 have hf0:=Zqi (Zcd h q)
 obtain ⟨c,hc⟩:∃c,c=sat ss q:=⟨_,rfl⟩
 rw [← hc] at HA hf0
 rw [← hc]
 generalize (sz7 c).toArray=X at HA hf0
 clear hc h
 go_enter Tryz.func48,Tryz.ntmps48
 go_wp2_with (first
  |(go_at_call 107;have mk:=m1;clear mk;refine (HA.out _ HB1.out).mono ?_;rintro e w2 ⟨rfl,b2⟩;have HB2:=Za (Zb HB1.out b2);clear b2)
  |(go_at_call 107;refine (HA.out _ (Below.refl _ _)).mono ?_;rintro e w1 ⟨rfl,b1⟩;have HB1:=Za b1;have m1:Hid True:=trivial;clear b1))
 go_ret
 exact ⟨rfl,HB1.out⟩
set_option maxHeartbeats 400000 in
theorem Yko {w:World} {g:Nat} {vp vf:Value} {room:Nat} {ss:List Sp} {fr:List Nat} (h:Rs w g vp vf room ss fr) (q:Int):Calls Tryz.prog 91 #[.pointer (some ⟨g,0,none⟩),.int .i64 q] w fun e w'=>e=.returned ((.int .i64 ((sat ss q).own:Int)))∧Below w.heap.size w w':=by
 have HA:Hid (∀w',Below w.heap.size w w'→Calls Tryz.prog 107 #[.pointer (some ⟨g,0,none⟩),.int .i64 q] w' fun e w''=>e=.returned (.agg (sz7 (sat ss q)).toArray)∧Below w'.heap.size w' w''):=fun w' hb=>Zbf (h.grow hb) q
 have hf0:=Zoa (Zcd h q)
 obtain ⟨c,hc⟩:∃c,c=sat ss q:=⟨_,rfl⟩
 rw [← hc] at HA hf0
 rw [← hc]
 generalize (sz7 c).toArray=X at HA hf0
 clear hc h
 go_enter Tryz.func91,Tryz.ntmps91
 go_wp2_with (first
  |(go_at_call 107;have mk:=m1;clear mk;refine (HA.out _ HB1.out).mono ?_;rintro e w2 ⟨rfl,b2⟩;have HB2:=Za (Zb HB1.out b2);clear b2)
  |(go_at_call 107;refine (HA.out _ (Below.refl _ _)).mono ?_;rintro e w1 ⟨rfl,b1⟩;have HB1:=Za b1;have m1:Hid True:=trivial;clear b1))
 go_ret
 exact ⟨rfl,HB1.out⟩
set_option maxHeartbeats 400000 in
theorem Yhe {w:World} {g:Nat} {vp vf:Value} {room:Nat} {ss:List Sp} {fr:List Nat} (h:Rs w g vp vf room ss fr) (q:Int):Calls Tryz.prog 99 #[.pointer (some ⟨g,0,none⟩),.int .i64 q] w fun e w'=>e=.returned ((sat ss q).val)∧Below w.heap.size w w':=by
 have HA:Hid (∀w',Below w.heap.size w w'→Calls Tryz.prog 107 #[.pointer (some ⟨g,0,none⟩),.int .i64 q] w' fun e w''=>e=.returned (.agg (sz7 (sat ss q)).toArray)∧Below w'.heap.size w' w''):=fun w' hb=>Zbf (h.grow hb) q
 have hf0:=Yeo (Zcd h q)
 have hp:=@Yjc (sat ss q).key (sat ss q).val (Zcd h q).hk.1
 obtain ⟨c,hc⟩:∃c,c=sat ss q:=⟨_,rfl⟩
 rw [← hc] at HA hf0 hp
 rw [← hc]
 generalize (sz7 c).toArray=X at HA hf0
 clear hc h
 go_enter Tryz.func99,Tryz.ntmps99
 go_wp2_with (first
  |(go_at_call 107;have mk:=m1;clear mk;refine (HA.out _ HB1.out).mono ?_;rintro e w2 ⟨rfl,b2⟩;have HB2:=Za (Zb HB1.out b2);clear b2)
  |(go_at_call 107;refine (HA.out _ (Below.refl _ _)).mono ?_;rintro e w1 ⟨rfl,b1⟩;have HB1:=Za b1;have m1:Hid True:=trivial;clear b1))
 go_ret
 exact ⟨rfl,HB1.out⟩
set_option maxHeartbeats 400000 in
theorem Yhh {w:World} {g:Nat} {vp vf:Value} {room:Nat} {ss:List Sp} {fr:List Nat} (h:Rs w g vp vf room ss fr) (q:Int):Calls Tryz.prog 67 #[.pointer (some ⟨g,0,none⟩),.int .i64 q] w fun e w'=>e=.returned ((.tuple #[.int .i64 ((sat ss q).l:Int),.int .i64 ((sat ss q).r:Int)]))∧Below w.heap.size w w':=by
 have HA:Hid (∀w',Below w.heap.size w w'→Calls Tryz.prog 107 #[.pointer (some ⟨g,0,none⟩),.int .i64 q] w' fun e w''=>e=.returned (.agg (sz7 (sat ss q)).toArray)∧Below w'.heap.size w' w''):=fun w' hb=>Zbf (h.grow hb) q
 have hf0:=Ynw (Zcd h q)
 have hf1:=Ynv (Zcd h q)
 obtain ⟨c,hc⟩:∃c,c=sat ss q:=⟨_,rfl⟩
 rw [← hc] at HA hf0 hf1
 rw [← hc]
 generalize (sz7 c).toArray=X at HA hf0 hf1
 clear hc h
 go_enter Tryz.func67,Tryz.ntmps67
 go_wp2_with (first
  |(go_at_call 107;have mk:=m1;clear mk;refine (HA.out _ HB1.out).mono ?_;rintro e w2 ⟨rfl,b2⟩;have HB2:=Za (Zb HB1.out b2);clear b2)
  |(go_at_call 107;refine (HA.out _ (Below.refl _ _)).mono ?_;rintro e w1 ⟨rfl,b1⟩;have HB1:=Za b1;have m1:Hid True:=trivial;clear b1))
 go_ret2
 exact ⟨rfl,HB2.out⟩
set_option maxHeartbeats 400000 in
theorem Zxn {w:World} {g:Nat} {vp vf:Value} {room:Nat} {ss:List Sp} {fr:List Nat} (h:Rs w g vp vf room ss fr) (q:Int) (hm:(sat ss q).own+(sat ss q).sd≤1073741824):Calls Tryz.prog 63 #[.pointer (some ⟨g,0,none⟩),.int .i64 q] w fun e w'=>e=.returned ((.int .i64 (((sat ss q).own+(sat ss q).sd:Nat):Int)))∧Below w.heap.size w w':=by
 have HA:Hid (∀w',Below w.heap.size w w'→Calls Tryz.prog 107 #[.pointer (some ⟨g,0,none⟩),.int .i64 q] w' fun e w''=>e=.returned (.agg (sz7 (sat ss q)).toArray)∧Below w'.heap.size w' w''):=fun w' hb=>Zbf (h.grow hb) q
 have hf0:=Zoa (Zcd h q)
 have hf1:=Ynf (Zcd h q)
 have hx:wrap64 (((sat ss q).own:Int)+((sat ss q).sd:Int))=(((sat ss q).own+(sat ss q).sd:Nat):Int):=by rw [Go.IntWalk.wrap64_in _ (by omega)];rfl
 obtain ⟨c,hc⟩:∃c,c=sat ss q:=⟨_,rfl⟩
 rw [← hc] at HA hf0 hf1 hx
 rw [← hc]
 generalize (sz7 c).toArray=X at HA hf0 hf1
 clear hc h hm
 go_enter Tryz.func63,Tryz.ntmps63
 go_wp2_with (first
  |(go_at_call 107;have mk:=m1;clear mk;refine (HA.out _ HB1.out).mono ?_;rintro e w2 ⟨rfl,b2⟩;have HB2:=Za (Zb HB1.out b2);clear b2)
  |(go_at_call 107;refine (HA.out _ (Below.refl _ _)).mono ?_;rintro e w1 ⟨rfl,b1⟩;have HB1:=Za b1;have m1:Hid True:=trivial;clear b1))
 go_ret
 exact ⟨by rw [← hx];rfl,HB2.out⟩
def dp7 (s:Sp):Int:=if s.kind=2 then (s.d:Int) else -1
set_option maxHeartbeats 1000000 in
theorem Yho {w:World} {g:Nat} {vp vf:Value} {room:Nat} {ss:List Sp} {fr:List Nat} (h:Rs w g vp vf room ss fr) (q:Int):Calls Tryz.prog 87 #[.pointer (some ⟨g,0,none⟩),.int .i64 q] w fun e w'=>e=.returned (.int .i64 (dp7 (sat ss q)))∧Below w.heap.size w w':=by
 have HA:Hid (∀w',Below w.heap.size w w'→Calls Tryz.prog 107 #[.pointer (some ⟨g,0,none⟩),.int .i64 q] w' fun e w''=>e=.returned (.agg (sz7 (sat ss q)).toArray)∧Below w'.heap.size w' w''):=fun w' hb=>Zbf (h.grow hb) q
 have hf0:=Zqi (Zcd h q)
 have hf1:=Ynn (Zcd h q)
 obtain ⟨c,hc⟩:∃c,c=sat ss q:=⟨_,rfl⟩
 rw [← hc] at HA hf0 hf1
 rw [← hc]
 generalize (sz7 c).toArray=X at HA hf0 hf1
 clear hc h
 unfold dp7
 by_cases hk:c.kind=2
 ·rw [if_pos hk]
  rw [hk] at hf0
  clear hk
  go_enter Tryz.func87,Tryz.ntmps87
  go_wp2_with (first
   |(go_at_call 107;have mk:=m1;clear mk;refine (HA.out _ HB1.out).mono ?_;rintro e w2 ⟨rfl,b2⟩;have HB2:=Za (Zb HB1.out b2);clear b2)
   |(go_at_call 107;refine (HA.out _ (Below.refl _ _)).mono ?_;rintro e w1 ⟨rfl,b1⟩;have HB1:=Za b1;have m1:Hid True:=trivial;clear b1))
  go_ret
  exact ⟨rfl,HB2.out⟩
 ·rw [if_neg hk]
  generalize c.kind=K at hk hf0
  have hb:(K == 2)=false:=by simp [hk]
  clear hk
  go_enter Tryz.func87,Tryz.ntmps87
  go_wp2_with (first
   |(go_at_call 107;refine (HA.out _ (Below.refl _ _)).mono ?_;rintro e w1 ⟨rfl,b1⟩;have HB1:=Za b1;clear b1))
  go_ret
  exact ⟨rfl,HB1.out⟩
set_option maxHeartbeats 400000 in
theorem Ykj {w:World} {g:Nat} {vp vf:Value} {room:Nat} {ss:List Sp} {fr:List Nat} (h:Rs w g vp vf room ss fr):Calls Tryz.prog 39 #[.pointer (some ⟨g,0,none⟩)] w fun e w'=>e=.returned (.int .i64 (room:Int))∧w'=w:=by
 have c0:=h.c0
 have c1:=h.c1
 clear h
 go_enter Tryz.func39,Tryz.ntmps39
 go_wp2_with (go_at_call 83;refine (Zag g _ c0).mono ?_;rintro e w' ⟨rfl,hx⟩;rw [hx];clear hx w')
 go_ret
 exact ⟨rfl,rfl⟩
set_option maxHeartbeats 1000000 in
theorem Zpj {w:World} {g:Nat} {vp vf:Value} {room:Nat} {ss:List Sp} (h:Rs w g vp vf room ss []) (b:Bool) (hb:b=decide (room≤ss.length)):Calls Tryz.prog 166 #[.pointer (some ⟨g,0,none⟩)] w fun e w'=>e=.returned (.bool b)∧Below w.heap.size w w':=by
 have c1:=h.c1
 have c2:=h.c2
 have c3:=h.c3
 obtain ⟨a,c,rfl⟩:=Zi h.frs
 obtain ⟨a2,c2',rfl⟩:=Zi h.sps
 have hb2:decide ((room:Int)≤(ss.length:Int))=b:=by
  rw [hb]
  by_cases e:room≤ss.length
  ·simp [e]
  ·simp [e]
 clear h hb
 go_enter Tryz.func166,Tryz.ntmps166
 go_wp2_with fail
 go_quiet (fail)
 go_wp2
 go_ret
 exact ⟨by rw [← hb2];simp,below_drewN (Below.refl _ _) _⟩
def RT7 (w:World) (g:Nat) (S:List Nat) (room:Nat) (ss:List Sp) (fr:List Nat) (w':World):Prop:=∃vp vf,Rs w' g vp vf room ss fr∧Mod S w w'∧New S w (rsB g vp vf ss)
theorem Zny:∀(ss:List Sp),(∀s∈ss,s.key.length=32)→∀(i:Nat) (hi:i<ss.length) (j:Nat) (u:Value) (s':Sp),j<39→(sz7 ss[i]).set j u=sz7 s'→(ss.flatMap sz7).set (i * 39+j) u=(ss.set i s').flatMap sz7
 | [],_,i,hi,_,_,_,_,_=>by simp at hi
 | s::ss,h,0,_,j,u,s',hj,hv=>by
  have hl:=Zw s (h s (by simp))
  rw [List.flatMap_cons,Nat.zero_mul,Nat.zero_add,List.set_append_left _ _ (by omega),List.set_cons_zero,List.flatMap_cons]
  rw [show (sz7 s).set j u=sz7 s' from hv]
 | s::ss,h,i+1,hi,j,u,s',hj,hv=>by
  have hl:=Zw s (h s (by simp))
  rw [List.flatMap_cons,List.set_append_right _ _ (by rw [hl];omega),hl,show (i+1) * 39+j-39=i * 39+j by omega,List.set_cons_succ,List.flatMap_cons]
  rw [Zny ss (fun s hs=>h s (List.mem_cons_of_mem _ hs)) i (by simpa using hi) j u s' hj hv]
theorem Zpa (s:Sp) (h:s.key.length=32) (n:Nat):(sz7 s).set 37 (.int .i64 (n:Int))=sz7 { s with own:=n}:=by
 have hl:=Zx s.key s.val h
 unfold sz7
 simp only [List.set_cons_succ]
 rw [List.set_append_right _ _ (by omega),hl]
 rfl
theorem Yjz (s:Sp) (h:s.key.length=32) (n:Nat):(sz7 s).set 38 (.int .i64 (n:Int))=sz7 { s with sd:=n}:=by
 have hl:=Zx s.key s.val h
 unfold sz7
 simp only [List.set_cons_succ]
 rw [List.set_append_right _ _ (by omega),hl]
 rfl
theorem Zth:(154:Nat)≠80:=by decide
theorem Ybi:(154:Nat)≠3:=by decide
theorem Ygr:(154:Nat)≠5:=by decide
theorem Zoz:(3:Nat)≠80:=by decide
theorem Ygq:(5:Nat)≠80:=by decide
theorem Zdv (ss:List Sp) (i j:Nat) (s:Sp) (hi:i<ss.length):spAt (ss.set i s) j=if j=i then s else spAt ss j:=by
 unfold spAt
 rw [List.getElem?_set]
 by_cases e:i=j
 ·subst e
  simp [hi]
 ·rw [if_neg e,if_neg (fun q=>e q.symm)]
theorem Zca {ss:List Sp} {i:Nat} {s t:Sp} (h:t∈ss.set i s):t=s∨t∈ss:=(List.mem_or_eq_of_mem_set h).symm
theorem Rs.setF {w:World} {g b n c:Nat} {vf:Value} {room:Nat} {ss:List Sp} {fr:List Nat} (h:Rs w g (.slice (some ⟨b,0,none⟩) n c) vf room ss fr) (i:Nat) (hi:i<ss.length) (j:Nat) (hj:j<39) (u:Value) (s':Sp) (hs:(sz7 (spAt ss i)).set j u=sz7 s') (h1:s'.key=(spAt ss i).key) (h2:s'.val=(spAt ss i).val) (h3:s'.bs=(spAt ss i).bs) (h4:s'.kind≠0):Rs (w.setCell ⟨b,i * 39+j,none⟩ u) g (.slice (some ⟨b,0,none⟩) n c) vf room (ss.set i s') fr:=by
 have m:Mod [b] w (w.setCell ⟨b,i * 39+j,none⟩ u):=Mod.setCell _ _ _ _ (by simp)
 obtain ⟨_,_,e⟩:=Zi h.sps
 injection e with _ e _
 subst e
 have hat:spAt ss i=ss[i]:=by simp [spAt,hi]
 have hmem:spAt ss i∈ss:=by rw [hat];exact List.getElem_mem hi
 obtain ⟨b1,_,_,hb1,_⟩:=Zdz h.sps b rfl
 have hv:∀s∈ss,∃sp,Own 0 (w.setCell ⟨b,i * 39+j,none⟩ u) s.val s.bs sp:=fun s hs=>by
  obtain ⟨sp,ho⟩:=h.vals s hs
  refine ⟨sp,ho.mod m (fun k hk e=>?_)⟩
  obtain rfl:k=b:=by simpa using e
  obtain ⟨_,hb2⟩:=ho.blk k hk
  exact hb1.ne hb2 Ygr rfl
 refine ⟨h.blk.mod m ?_,?_,Zbc h.frs m (fun k hk e=>?_),fun s hs=>?_,fun s hs=>?_,fun s hs hk=>?_,by rw [List.length_set];exact h.few⟩
 ·intro e
  obtain rfl:g=b:=by simpa using e
  exact hb1.ne h.blk Zth rfl
 ·have h0:=Zjf h.sps (i * 39+j) u
  rw [Zny ss (fun s hs=>(h.ok s hs).hk.1) i hi j u s' hj (by rw [← hat];exact hs)] at h0
  rw [List.length_set]
  exact h0
 ·obtain rfl:k=b:=by simpa using e
  exact Zhk h.sps h.frs Ybi k rfl hk
 ·rcases Zca hs with rfl | hs
  ·obtain ⟨sp,ho⟩:=hv _ hmem
   exact ⟨sp,by rw [h2,h3];exact ho⟩
  ·exact hv s hs
 ·rcases Zca hs with rfl | hs
  ·have:=h.ok _ hmem
   exact ⟨by rw [h1];exact this.hk,by rw [h2,h3];exact this.vs⟩
  ·exact h.ok s hs
 ·rcases Zca hs with rfl | hs
  ·exact absurd hk h4
  ·exact h.zero s hs hk
theorem Zlr {g:Nat} {vp vf:Value} {ss:List Sp} {i:Nat} {s':Sp} (hi:i<ss.length) (h2:s'.val=(spAt ss i).val):∀k∈rsB g vp vf (ss.set i s'),k∈rsB g vp vf ss:=fun k hk=>by
 rcases Zu.1 hk with h | h | h | ⟨s,hs,h⟩
 ·exact Zu.2 (.inl h)
 ·exact Zu.2 (.inr (.inl h))
 ·exact Zu.2 (.inr (.inr (.inl h)))
 ·refine Zu.2 (.inr (.inr (.inr ?_)))
  rcases Zca hs with rfl | hs
  ·exact ⟨spAt ss i,by simp [spAt,hi],by rw [← h2];exact h⟩
  ·exact ⟨s,hs,h⟩
theorem Rs.num {w:World} {g:Nat} {vp vf:Value} {room:Nat} {ss:List Sp} {fr:List Nat} (h:Rs w g vp vf room ss fr) (i:Nat) (hi:i<ss.length):∃b c,vp=.slice (some ⟨b,0,none⟩) ss.length c∧w.cell? ⟨b,i * 39+37,none⟩=some (.int .i64 ((spAt ss i).own:Int))∧w.cell? ⟨b,i * 39+38,none⟩=some (.int .i64 ((spAt ss i).sd:Int))∧(∀j,w.frozen? ⟨b,j,none⟩=false)∧(0:Int)≤(i:Int)∧(i:Int)<(ss.length:Int)∧wrap64 (i:Int)=(i:Int):=by
 have hf:=h.few
 obtain ⟨b,c,rfl,hc⟩:=Zax h.sps (by omega)
 have hr:=h.range i hi
 have ha:=Zbv (spAt ss i) (Zco h i).hk.1
 exact ⟨b,c,rfl,hr 37 _ ha.2.2.2.2.2.1,hr 38 _ ha.2.2.2.2.2.2,fun j=>Zfc h.sps j,by omega,by omega,Go.IntWalk.wrap64_in _ (by omega)⟩
set_option maxHeartbeats 1000000 in
theorem Ztu {w:World} {g:Nat} {vp vf:Value} {room:Nat} {ss:List Sp} {fr:List Nat} (h:Rs w g vp vf room ss fr) (q:Int) (hk:(sat ss q).kind=0):Calls Tryz.prog 114 #[.pointer (some ⟨g,0,none⟩),.int .i64 q] w fun e w'=>e=.returned (.int .i64 7)∧w'=w:=by
 have c0:=h.c0
 have HH:=Za (Zbw h q)
 rw [show decide ((sat ss q).kind≠0)=false by simp [hk]] at HH
 clear h hk
 go_enter Tryz.func114,Tryz.ntmps114
 go_wp2_with (first
  |(go_at_call 83;refine (Zag g _ c0).mono ?_;rintro e w' ⟨rfl,hx⟩;rw [hx];clear hx w')
  |(go_at_call 84;refine HH.out.mono ?_;rintro e w' ⟨rfl,hx⟩;rw [hx];clear hx w'))
 go_ret
 exact ⟨rfl,rfl⟩
theorem Zei (ss:List Sp) (i:Nat):sat ss ((i:Int)+1)=spAt ss i:=by
 unfold sat
 rw [if_pos (by omega),show ((i:Int)+1-1).toNat=i by omega]
theorem Zgp {ss:List Sp} {i:Nat} (h:(spAt ss i).kind≠0):i<ss.length:=by
 apply Nat.lt_of_not_le
 intro hn
 apply h
 unfold spAt
 rw [List.getElem?_eq_none hn]
 rfl
set_option maxHeartbeats 1000000 in
theorem Zph {w:World} {g:Nat} {vp vf:Value} {room:Nat} {ss:List Sp} {fr:List Nat} (h:Rs w g vp vf room ss fr) (i:Nat) (hk:(spAt ss i).kind≠0) (hm:(spAt ss i).own+(spAt ss i).sd=1073741824):Calls Tryz.prog 114 #[.pointer (some ⟨g,0,none⟩),.int .i64 ((i:Int)+1)] w fun e w'=>e=.returned (.int .i64 4)∧Below w.heap.size w w':=by
 have c0:=h.c0
 have HH:=Za (Zbw h ((i:Int)+1))
 have HC:=Za (Zxn h ((i:Int)+1) (by rw [Zei];omega))
 rw [Zei] at HH HC
 rw [show decide ((spAt ss i).kind≠0)=true by simp [hk]] at HH
 rw [hm] at HC
 clear h hk hm
 generalize (i:Int)+1=q at *
 go_enter Tryz.func114,Tryz.ntmps114
 go_wp2_with (first
  |(go_at_call 83;refine (Zag g _ c0).mono ?_;rintro e w' ⟨rfl,hx⟩;rw [hx];clear hx w')
  |(go_at_call 84;refine HH.out.mono ?_;rintro e w' ⟨rfl,hx⟩;rw [hx];clear hx w')
  |(go_at_call 63;refine HC.out.mono ?_;rintro e w1 ⟨rfl,b1⟩))
 go_ret
 exact ⟨rfl,b1⟩
set_option maxHeartbeats 1000000 in
theorem Zxj {w:World} {g:Nat} {vp vf:Value} {room:Nat} {ss:List Sp} {fr:List Nat} (h:Rs w g vp vf room ss fr) (i:Nat) (hk:(spAt ss i).kind≠0) (hm:(spAt ss i).own+(spAt ss i).sd<1073741824):Calls Tryz.prog 114 #[.pointer (some ⟨g,0,none⟩),.int .i64 ((i:Int)+1)] w fun e w'=>e=.returned (.int .i64 0)∧RT7 w g (rsB g vp vf ss) room (ss.set i { spAt ss i with own:=(spAt ss i).own+1}) fr w':=by
 have c0:=h.c0
 have hil:=Zgp hk
 have HH:=Za (Zbw h ((i:Int)+1))
 have HC:=Za (Zxn h ((i:Int)+1) (by rw [Zei];omega))
 rw [Zei] at HH HC
 rw [show decide ((spAt ss i).kind≠0)=true by simp [hk]] at HH
 have HS:Hid (∀w',Below w.heap.size w w'→Rs w' g vp vf room ss fr):=fun w' hb=>h.grow hb
 have HK:=Za hk
 have HIL:=Za hil
 obtain ⟨b,c,rfl,-⟩:=h.num i hil
 obtain ⟨q,hq⟩:∃q:Int,q=(i:Int)+1:=⟨_,rfl⟩
 rw [← hq] at HH HC
 rw [← hq]
 have h3:q-1=(i:Int):=by omega
 have hc:(((spAt ss i).own+(spAt ss i).sd:Nat):Int)<1073741824:=by omega
 obtain ⟨z,hz⟩:∃z:Int,z=(((spAt ss i).own+(spAt ss i).sd:Nat):Int):=⟨_,rfl⟩
 rw [← hz] at HC hc
 obtain ⟨o,ho⟩:∃o,o=(spAt ss i).own:=⟨_,rfl⟩
 have HO:=Za ho
 have hw1:wrap64 ((o:Int)+1)=(o:Int)+1:=Go.IntWalk.wrap64_in _ (by omega)
 clear h hk hil hq hz hm
 clear ho
 go_enter Tryz.func114,Tryz.ntmps114
 go_wp2_with (first
  |(go_at_call 83;refine (Zag g _ c0).mono ?_;rintro e w' ⟨rfl,hx⟩;rw [hx];clear hx w')
  |(go_at_call 84;refine HH.out.mono ?_;rintro e w' ⟨rfl,hx⟩;rw [hx];clear hx w')
  |(go_at_call 63;refine HC.out.mono ?_;rintro e w1 ⟨rfl,b1⟩;have HR1:=Za (HS.out _ b1);have c2:=HR1.out.c2;obtain ⟨b9,c9,e9,k1,k2,k3,j0,j1,hw⟩:=HR1.out.num i HIL.out;injection e9 with e91 _ e93;injection e91 with e91;injection e91 with e91;subst e91;subst e93;rw [← HO.out] at k1;have k4:=k3 (i * 39+37);have HB1:=Za b1;clear b1 k2 k3))
 go_ret
 have hR:=HR1.out.setF i HIL.out 37 (by omega) (.int .i64 ((o+1:Nat):Int)) { spAt ss i with own:=(spAt ss i).own+1} (by rw [HO.out];exact Zpa _ (Zco HR1.out i).hk.1 _) rfl rfl rfl HK.out
 rw [show ((o+1:Nat):Int)=(o:Int)+1 from rfl] at hR
 refine ⟨rfl,_,_,hR,(Mod.of_below HB1.out _).trans' (Mod.setCell _ _ _ _ (Zu.2 (.inr (.inl rfl)))),fun k hk=>.inl (Zlr (s':={ spAt ss i with own:=(spAt ss i).own+1}) HIL.out rfl k hk)⟩
theorem Rs.setOwn {w:World} {g b n c:Nat} {vf:Value} {room:Nat} {ss:List Sp} {fr:List Nat} (h:Rs w g (.slice (some ⟨b,0,none⟩) n c) vf room ss fr) (i:Nat) (hk:(spAt ss i).kind≠0) (v:Nat):Rs (w.setCell ⟨b,i * 39+37,none⟩ (.int .i64 (v:Int))) g (.slice (some ⟨b,0,none⟩) n c) vf room (ss.set i { spAt ss i with own:=v}) fr:=h.setF i (Zgp hk) 37 (by omega) (.int .i64 (v:Int)) { spAt ss i with own:=v} (Zpa _ (Zco h i).hk.1 _) rfl rfl rfl hk
theorem Rs.setSd {w:World} {g b n c:Nat} {vf:Value} {room:Nat} {ss:List Sp} {fr:List Nat} (h:Rs w g (.slice (some ⟨b,0,none⟩) n c) vf room ss fr) (i:Nat) (hk:(spAt ss i).kind≠0) (v:Nat):Rs (w.setCell ⟨b,i * 39+38,none⟩ (.int .i64 (v:Int))) g (.slice (some ⟨b,0,none⟩) n c) vf room (ss.set i { spAt ss i with sd:=v}) fr:=h.setF i (Zgp hk) 38 (by omega) (.int .i64 (v:Int)) { spAt ss i with sd:=v} (Yjz _ (Zco h i).hk.1 _) rfl rfl rfl hk
set_option maxHeartbeats 1000000 in
theorem Zpf (g:Nat) (w:World):Calls Tryz.prog 170 #[.pointer (some ⟨g,0,none⟩),.int .i64 0] w fun e w'=>e=.returned (.tuple #[])∧w'=w:=by
 go_enter Tryz.func170,Tryz.ntmps170
 go_wp2
 refine bodyPost_end (results_none rfl _ _ _) rfl ?_
 exact ⟨rfl,rfl⟩
set_option maxHeartbeats 1000000 in
theorem Zxf {w:World} {g:Nat} {vp vf:Value} {room:Nat} {ss:List Sp} {fr:List Nat} (h:Rs w g vp vf room ss fr) (i:Nat) (hk:(spAt ss i).kind≠0) (p:Nat) (hp:(spAt ss i).own=p+1) (hm:(spAt ss i).own+(spAt ss i).sd≤1073741824):Calls Tryz.prog 170 #[.pointer (some ⟨g,0,none⟩),.int .i64 ((i:Int)+1)] w fun e w'=>e=.returned (.tuple #[])∧RT7 w g (rsB g vp vf ss) room (ss.set i { spAt ss i with own:=p,sd:=(spAt ss i).sd+1}) fr w':=by
 have hil:=Zgp hk
 obtain ⟨b,c,rfl,k1,k2,k3,j0,j1,hw⟩:=h.num i hil
 have hR:=h.setOwn i hk p
 have hat:spAt (ss.set i { spAt ss i with own:=p}) i= { spAt ss i with own:=p}:=by rw [Zdv _ _ _ _ hil,if_pos rfl]
 have hR2:=hR.setSd i (by rw [hat];exact hk) ((spAt ss i).sd+1)
 rw [hat,List.set_set] at hR2
 obtain ⟨b9,c9,e9,l1,l2,l3,_,_,_⟩:=hR.num i (by rw [List.length_set];exact hil)
 rw [List.length_set] at e9
 injection e9 with e91 _ e93
 injection e91 with e91
 injection e91 with e91
 subst e91
 subst e93
 rw [hat] at l2
 simp only at l2
 have c2:=h.c2
 have d2:=hR.c2
 have k4:=k3 (i * 39+37)
 have l4:=l3 (i * 39+38)
 rw [hp] at k1
 obtain ⟨o,ho⟩:∃o,o=(spAt ss i).sd:=⟨_,rfl⟩
 rw [← ho] at l2 hR2
 rw [← ho]
 have hw1:wrap64 ((o:Int)+1)=(o:Int)+1:=Go.IntWalk.wrap64_in _ (by omega)
 have hw2:wrap64 (p:Int)=(p:Int):=Go.IntWalk.wrap64_in _ (by omega)
 have HR2:=Za hR2
 have HIL:=Za hil
 obtain ⟨q,hq⟩:∃q:Int,q=(i:Int)+1:=⟨_,rfl⟩
 rw [← hq]
 have h3:q-1=(i:Int):=by omega
 have h0:0<q:=by omega
 clear h hk hil hq hm hp ho hR hR2 k2 k3 l1 l3 hat
 go_enter Tryz.func170,Tryz.ntmps170
 go_wp2
 refine bodyPost_end (results_none rfl _ _ _) rfl ?_
 have hX:=HR2.out
 rw [show ((o+1:Nat):Int)=(o:Int)+1 from rfl] at hX
 refine ⟨rfl,_,_,hX,(Mod.setCell _ _ _ _ (Zu.2 (.inr (.inl rfl)))).trans' (Mod.setCell _ _ _ _ (Zu.2 (.inr (.inl rfl)))),fun k hk=>.inl (Zlr (s':={ spAt ss i with own:=p,sd:=o+1}) HIL.out rfl k hk)⟩
structure Rel7 (cs:List (Nat×Ce)) (p q:List Nat) (ss:List Sp):Prop where
 len:ss.length=cs.length
 kind:∀i,(spAt ss i).kind=(ce cs i).kind
 d:∀i,(spAt ss i).d=(ce cs i).dp
 key:∀i,(ce cs i).kind=1→(spAt ss i).key=(ce cs i).key
 bs:∀i,(spAt ss i).bs=(ce cs i).bs
 l:∀i,(spAt ss i).l=(ce cs i).l
 r:∀i,(spAt ss i).r=(ce cs i).r
 own:∀i,(spAt ss i).own=Go.Proofs.YtgfdgjkbcdmboaaGreatDoor.own cs p i
 sd:∀i,(spAt ss i).sd=(ce cs i).ab+q.count (i+1)
theorem Run.split {cs:List (Nat×Ce)} {fr st:List Nat} {cs':List (Nat×Ce)} {fr':List Nat} {n:Nat} (h:Run cs fr st cs' fr' n):∀a b,st=a++b→∃cs1 fr1 n1 n2,Run cs fr a cs1 fr1 n1∧Run cs1 fr1 b cs' fr' n2∧n=n1+n2:=by
 induction h with
 | done cs fr=>
  intro a b e
  obtain ⟨rfl,rfl⟩:=List.append_eq_nil_iff.1 e.symm
  exact ⟨_,_,0,0,Run.done _ _,Run.done _ _,rfl⟩
 | keep hc hr ih=>
  intro a b e
  cases a with
  | nil=>
   rw [List.nil_append] at e
   subst e
   exact ⟨_,_,0,_,Run.done _ _,Run.keep hc hr,by omega⟩
  | cons x a=>
   rw [List.cons_append] at e
   injection e with e1 e2
   subst e1
   obtain ⟨cs1,fr1,n1,n2,h1,h2,h3⟩:=ih a b e2
   exact ⟨cs1,fr1,n1,n2,Run.keep hc h1,h2,h3⟩
 | free hc hr ih=>
  intro a b e
  cases a with
  | nil=>
   rw [List.nil_append] at e
   subst e
   exact ⟨_,_,0,_,Run.done _ _,Run.free hc hr,by omega⟩
  | cons x a=>
   rw [List.cons_append] at e
   injection e with e1 e2
   subst e1
   subst e2
   obtain ⟨cs1,fr1,n1,n2,h1,h2,h3⟩:=ih (ne0 (ce _ _).l++(ne0 (ce _ _).r++a)) b (by simp only [List.append_assoc];rfl)
   exact ⟨cs1,fr1,n1+1,n2,Run.free hc h1,h2,by omega⟩
theorem Rel7.inn {cs:List (Nat×Ce)} {p q:List Nat} {ss:List Sp} (h:Rel7 cs p q ss) {pend:List Nat} (w:Wf cs pend) (i:Nat):(spAt ss i).kind≠0↔0<cc cs i:=by
 rw [h.kind i]
 constructor
 ·intro hk
  apply Nat.pos_of_ne_zero
  intro e
  rw [w.zero i e] at hk
  exact hk rfl
 ·intro hc
  rcases w.kinds i hc with e | e <;> rw [e] <;> decide
theorem Rel7.less {cs:List (Nat×Ce)} {i:Nat} {rest:List Nat} {ss:List Sp} (h:Rel7 cs ((i+1)::rest) rest ss) (w:Wf cs ((i+1)::rest)) (hc:1<cc cs i):Rel7 (lessC cs i) rest rest ss∧0<(spAt ss i).own+(spAt ss i).sd:=by
 have s:=Zfv w hc
 have hl:=Zbd (cs:=cs) (i:=i) (by omega)
 have hce:∀j,ce (lessC cs i) j=ce cs j:=fun j=>by
  unfold lessC
  rw [Zct cs i j _ hl]
  split
  ·next e=>rw [e]
  ·rfl
 refine ⟨⟨by rw [s.len];exact h.len,fun j=>by rw [hce];exact h.kind j,fun j=>by rw [hce];exact h.d j,fun j=>by rw [hce];exact h.key j,fun j=>by rw [hce];exact h.bs j,fun j=>by rw [hce];exact h.l j,fun j=>by rw [hce];exact h.r j,fun j=>by rw [s.own];exact h.own j,fun j=>by rw [hce];exact h.sd j⟩,?_⟩
 have h1:=w.own i
 rw [List.count_cons_self] at h1
 rw [h.own,h.sd]
 omega
theorem Rel7.free {cs:List (Nat×Ce)} {i:Nat} {rest:List Nat} {ss:List Sp} (h:Rel7 cs ((i+1)::rest) rest ss) (w:Wf cs ((i+1)::rest)) (hc:cc cs i=1):Rel7 (freeC cs i) (ne0 (ce cs i).l++(ne0 (ce cs i).r++rest)) (ne0 (ce cs i).l++(ne0 (ce cs i).r++rest)) (ss.set i zs7)∧(spAt ss i).own+(spAt ss i).sd=0:=by
 have s:=Zef w hc
 have hl:=Zbd (cs:=cs) (i:=i) (by omega)
 have hls:i<ss.length:=by rw [h.len];exact hl
 have h1:=w.own i
 rw [List.count_cons_self] at h1
 have hn:=w.tr i (by omega)
 obtain ⟨nl,nr⟩:=hn.side_ne rfl
 obtain ⟨bl,br⟩:=hn.side_lt
 have a1:=Zgg (cs.set i (0,zc)) (ce cs i).r
 have a2:=Zgg (dnA (cs.set i (0,zc)) (ce cs i).r) (ce cs i).l
 have hcore:∀j,Core (if j=i then zc else ce cs j) (ce (freeC cs i) j):=fun j=>by
  have e:ce (cs.set i (0,zc)) j=if j=i then zc else ce cs j:=Zct cs i j _ hl
  rw [← e]
  exact (a1.core j).trans (a2.core j)
 have hpc:∀j,(ne0 (ce cs i).l++(ne0 (ce cs i).r++rest)).count (j+1)=(if (ce cs i).l=j+1 then 1 else 0)+((if (ce cs i).r=j+1 then 1 else 0)+rest.count (j+1)):=fun j=>by rw [List.count_append,List.count_append,Zga,Zga]
 have aa:AbOf (cs.set i (0,zc)) (freeC cs i):=a1.trans a2
 have hce:∀j,ce (cs.set i (0,zc)) j=if j=i then zc else ce cs j:=fun j=>Zct cs i j _ hl
 have hab:∀j,(ce (freeC cs i) j).ab=(if j=i then 0 else (ce cs j).ab)-(if (ce cs i).r=j+1 then 1 else 0)-(if (ce cs i).l=j+1 then 1 else 0):=fun j=>by
  unfold freeC
  rw [Zod _ _ _ (by rw [a1.len,List.length_set];exact bl),Zod _ _ _ (by rw [List.length_set];exact br),hce]
  split
  ·rfl
  ·rfl
 have hns:∀j,ns (freeC cs i) j+((if (ce cs i).l=j+1 then 1 else 0)+(if (ce cs i).r=j+1 then 1 else 0))=ns cs j:=fun j=>by
  have h1:=Ziz cs j i (0,zc) hl
  have h2:con j (cc cs i,ce cs i)=(if (ce cs i).l=j+1 then 1 else 0)+(if (ce cs i).r=j+1 then 1 else 0):=by simp [con,hc]
  have h3:con j (0,zc)=0:=rfl
  have h4:=aa.ns j
  omega
 have hsp:∀j,spAt (ss.set i zs7) j=if j=i then zs7 else spAt ss j:=fun j=>Zdv ss i j zs7 hls
 have hF:∀ {α:Type} (f:Sp→α) (k:Ce→α),(∀c n,k { c with ab:=n}=k c)→f zs7=k zc→(∀j,f (spAt ss j)=k (ce cs j))→∀j,f (spAt (ss.set i zs7) j)=k (ce (freeC cs i) j):=fun f k hab hz hs j=>by
  rw [hsp,hcore j,hab]
  split
  ·exact hz
  ·exact hs j
 refine ⟨⟨by rw [List.length_set,s.len];exact h.len,hF (·.kind) (·.kind) (fun _ _=>rfl) rfl h.kind,hF (·.d) (·.dp) (fun _ _=>rfl) rfl h.d,fun j=>?_,hF (·.bs) (·.bs) (fun _ _=>rfl) rfl h.bs,hF (·.l) (·.l) (fun _ _=>rfl) rfl h.l,hF (·.r) (·.r) (fun _ _=>rfl) rfl h.r,fun j=>?_,fun j=>?_⟩,?_⟩
 ·rw [hsp,hcore j]
  split
  ·intro e
   exact absurd e (show ¬(zc.kind=1) by decide)
  ·exact h.key j
 ·rw [hsp,s.own,← h.own]
  split
  ·next e=>
   rw [e,h.own]
   show 0=_
   omega
  ·rfl
 ·rw [hsp,hpc,hab]
  have h2:=hns j
  have h3:=w.ab j
  split
  ·next e=>
   subst e
   rw [if_neg nl,if_neg nr]
   show 0=_
   omega
  ·rw [h.sd]
   omega
 ·rw [h.own,h.sd]
  omega
theorem Rel7.side {cs:List (Nat×Ce)} {i:Nat} {rest:List Nat} {ss:List Sp} (h:Rel7 cs ((i+1)::rest) ((i+1)::rest) ss) (hi:i<ss.length):∃n,(spAt ss i).sd=n+1∧Rel7 cs ((i+1)::rest) rest (ss.set i { spAt ss i with sd:=n}):=by
 have h1:=h.sd i
 rw [List.count_cons_self] at h1
 have hsp:=fun j=>Zdv ss i j { spAt ss i with sd:=(ce cs i).ab+rest.count (i+1)} hi
 refine ⟨(ce cs i).ab+rest.count (i+1),by omega,?_⟩
 have hF:∀ {α:Type} (f:Sp→α) (k:Nat→α),(∀c n,f { c with sd:=n}=f c)→(∀j,f (spAt ss j)=k j)→∀j,f (spAt (ss.set i { spAt ss i with sd:=(ce cs i).ab+rest.count (i+1)}) j)=k j:=fun f k hab hs j=>by
  rw [hsp]
  split
  ·next e=>rw [hab,e];exact hs i
  ·exact hs j
 refine ⟨by rw [List.length_set];exact h.len,hF (·.kind) _ (fun _ _=>rfl) h.kind,hF (·.d) _ (fun _ _=>rfl) h.d,fun j=>?_,hF (·.bs) _ (fun _ _=>rfl) h.bs,hF (·.l) _ (fun _ _=>rfl) h.l,hF (·.r) _ (fun _ _=>rfl) h.r,hF (·.own) _ (fun _ _=>rfl) h.own,fun j=>?_⟩
 ·rw [hsp]
  split
  ·next e=>rw [e];exact h.key i
  ·exact h.key j
 ·rw [hsp]
  split
  ·next e=>rw [e]
  ·next e=>
   have:=h.sd j
   rw [List.count_cons_of_ne (by omega)] at this
   exact this
theorem Rel7.hold {cs:List (Nat×Ce)} {i:Nat} {ss:List Sp} (h:Rel7 cs [] [] ss) (w:Wf cs []) (ho:0<Go.Proofs.YtgfdgjkbcdmboaaGreatDoor.own cs [] i) (hi:i<ss.length):∃n,(spAt ss i).own=n+1∧Rel7 cs [i+1] [] (ss.set i { spAt ss i with own:=n}):=by
 have h1:=h.own i
 have hsp:=fun j=>Zdv ss i j { spAt ss i with own:=Go.Proofs.YtgfdgjkbcdmboaaGreatDoor.own cs [] i-1} hi
 refine ⟨Go.Proofs.YtgfdgjkbcdmboaaGreatDoor.own cs [] i-1,by omega,?_⟩
 have hF:∀ {α:Type} (f:Sp→α) (k:Nat→α),(∀c n,f { c with own:=n}=f c)→(∀j,f (spAt ss j)=k j)→∀j,f (spAt (ss.set i { spAt ss i with own:=Go.Proofs.YtgfdgjkbcdmboaaGreatDoor.own cs [] i-1}) j)=k j:=fun f k hab hs j=>by
  rw [hsp]
  split
  ·next e=>rw [hab,e];exact hs i
  ·exact hs j
 refine ⟨by rw [List.length_set];exact h.len,hF (·.kind) _ (fun _ _=>rfl) h.kind,hF (·.d) _ (fun _ _=>rfl) h.d,fun j=>?_,hF (·.bs) _ (fun _ _=>rfl) h.bs,hF (·.l) _ (fun _ _=>rfl) h.l,hF (·.r) _ (fun _ _=>rfl) h.r,fun j=>?_,hF (·.sd) _ (fun _ _=>rfl) h.sd⟩
 ·rw [hsp]
  split
  ·next e=>rw [e];exact h.key i
  ·exact h.key j
 ·rw [hsp]
  have h2:=w.own j
  unfold Go.Proofs.YtgfdgjkbcdmboaaGreatDoor.own at h2 ⊢
  split
  ·next e=>
   subst e
   rw [List.count_cons_self]
   rw [List.count_nil] at h2 ⊢
   show _-_-1=_
   omega
  ·next e=>
   rw [List.count_cons_of_ne (by omega)]
   exact h.own j
end Go.Proofs.YtgfdgjkbcdmboaaGreatDoor
