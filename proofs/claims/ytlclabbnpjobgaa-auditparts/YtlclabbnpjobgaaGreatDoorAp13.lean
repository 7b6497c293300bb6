/- KeptBytes, as a contract: what was lent and not turned is told so. -/
import Derived.Test.YtlclabbnpjobgaaGreatDoorAp11
import Derived.Lib.MakeNoZero
namespace Go.Proofs.YtlclabbnpjobgaaGreatDoor
variable {g:Nat}
variable {w:World}
variable {zs:Lq}
set_option maxRecDepth 20000
open Go.RowKit
theorem Row.reads {all:Lq} (h:Row w g all) (hb:Bytes all) (c:Nat) (hc:all.length≤c):Reads w (.slice (some ⟨g,0,none⟩) all.length c) all:=
 ⟨_,_,rfl,hc,fun h=>by simp at h,hb,fun _=>⟨g,0,rfl,fun i hi=>by rw [Nat.zero_add];exact h.cell i hi⟩⟩
set_option maxHeartbeats 1000000 in
theorem Zvs (g n m:Nat) (a:Option Addr) (c:Nat) (S:ByteArray) (zs:Lq) (w:World) (h5:(n:Int)+5≤(m:Int)) (h6:(0:Int)≤(n:Int)+5) (hl:n≤140737488355328)
  (HC:Hid (∀w',Kb w w'→(convert 52 9 (.slice (some ⟨g,0,none⟩) m m)).run Tryz.prog w'=.ok (.string S) w'))
  (HC2:Hid (∀w' g',Row w' g' (zs++marks n)→(convert 52 9 (.slice (some ⟨g',0,none⟩) ((n:Int)+5).toNat m)).run Tryz.prog w'=.ok (.string S) w'))
  (HL:Hid (Kc 84 #[.slice a n c] w.drew fun e w'=>e=.returned (.slice (some ⟨w.heap.size,0,none⟩) n m)∧Row w' w.heap.size (zs++marks n)∧Kb w w')):
  Kc 86 #[.slice (some ⟨g,0,none⟩) n m,.slice a n c] w fun e w'=>e=.returned (.bool true)∧Kb w w':=by
 have hwr:IntKind.i64.wrap ((n:Int)+5)=(n:Int)+5:=by rw [IntKind.wrap_i64];omega
 go_enter Tryz.func86,Tryz.ntmps86
 go_wp2_with fail
 go_region_held (fun w'=>(convert 52 9 (.slice (some ⟨g,0,none⟩) m m)).run Tryz.prog w'=.ok (.string S) w')
  (first | exact HC.out _ (Below.refl _ _).drew | exact HC.out _ (by assumption))
  (first | (go_at_call 84;refine HL.out.mono ?_;rintro e w1 ⟨rfl,hr1,hb1⟩;have c2:=HC2.out w1 w.heap.size hr1))
 go_wp2
 go_ret;exact ⟨rfl,by assumption⟩
theorem Zvr (g:Nat) (v:Value) (zs:Lq) (w:World) (hr:Row w g (zs++marks zs.length)) (h:Reads w v zs) (hl:zs.length≤140737488355328):
  Kc 86 #[.slice (some ⟨g,0,none⟩) zs.length (zs.length+5),v] w fun e w'=>e=.returned (.bool true)∧Kb w w':=by
 have hby:Bytes (zs++marks zs.length):=by
  obtain ⟨_,_,_,_,_,h1,_⟩:=h;exact h1.append (Zia _)
 have hlen:(zs++marks zs.length).length=zs.length+5:=by simp [Zbh]
 have h':=h;obtain ⟨a,c,rfl,_,_,_,_⟩:=h';refine Zvs g zs.length (zs.length+5) a c (strOfNums (zs++marks zs.length)) zs w (by omega) (by omega) hl ?_ ?_ ?_
 ·intro w' hb;have hr':Row w' g (zs++marks zs.length):=hr.of_block (hb.block g hr.lt);have:=Zcf (hr'.reads hby (zs.length+5) (by omega));rw [hlen] at this;exact this
 ·intro w' g' hr';have:=Zcf (hr'.reads hby (zs.length+5) (by omega));rw [hlen] at this;rw [show ((zs.length:Int)+5).toNat=zs.length+5 by omega];exact this
 ·refine (Zpn _ zs w.drew (by exact h) hl).mono ?_;rintro e w1 ⟨rfl,hr1,hb1,hs1⟩;exact ⟨rfl,hr1,Yfz hb1⟩
def Parts (w:World) (v:Value) (ps:List (Lq)):Prop:=
 ∃(a:Option Addr) (cap:Nat) (V:Nat→Value),v=.slice a ps.length cap∧ps.length≤cap∧ps.length≤140737488355328∧(0<ps.length→∃b off,a=some ⟨b,off,none⟩∧∀i,i<ps.length→w.cell? ⟨b,off+i,none⟩=some (V i))∧∀i,i<ps.length→Reads w (V i) (ps.getD i [])
def lens (ps:List (Lq)) (k:Nat):Nat:=((ps.take k).flatten).length
theorem Zvm (ps:List (Lq)) (k:Nat) (h:k<ps.length):lens ps (k+1)=lens ps k+(ps.getD k []).length:=by
 unfold lens;rw [List.take_succ_eq_append_getElem h,List.flatten_append,List.length_append];simp [List.getD,h]
theorem Zwm (ps:List (Lq)) (k:Nat) (h:k<ps.length):(ps.take (k+1)).flatten=(ps.take k).flatten++ps.getD k []:=by
 rw [List.take_succ_eq_append_getElem h,List.flatten_append];simp [List.getD,h]
theorem Yem (ps:List (Lq)) (k:Nat):lens ps k≤ps.flatten.length:=by
 unfold lens
 conv=>rhs;rw [← List.take_append_drop k ps,List.flatten_append,List.length_append]
 omega
def JoinPost (zs:Lq) (w:World) (e:Ending) (w':World):Prop:=∃u sp,e=.returned u∧Own w.heap.size w' u zs sp∧Kb w w'
theorem Zuz (w:World):Parts w (.slice none 0 0) []:=⟨none,0,fun _=>.slice none 0 0,rfl,by simp,by simp,fun h=>by simp at h,fun i hi=>by simp at hi⟩
theorem Zuy (w:World) (v:Value) (zs:Lq) (h:Reads w v zs):Parts (w.alloc (.cells #[v] 52)) (.slice (some ⟨w.heap.size,0,none⟩) 1 1) [zs]:=by
 refine ⟨_,1,fun _=>v,rfl,Nat.le_refl _,by simp,fun _=>⟨w.heap.size,0,rfl,fun i hi=>?_⟩,fun i hi=>?_⟩
 ·have hr:(w.alloc (.cells #[v] 52)).heap[w.heap.size]?=some (.cells #[v] 52 (0,0)):=heap_alloc_new w _;rw [cell_of_row _ _ _ _ _ _ hr]
  match i,hi with
  | 0,_=>rfl
 ·match i,hi with
  | 0,_=>exact h.grow (Zc w _)
theorem Zlm (w:World) (v u:Value) (zs ys:Lq) (h:Reads w v zs) (k:Reads w u ys):Parts (w.alloc (.cells #[v,u] 52)) (.slice (some ⟨w.heap.size,0,none⟩) 2 2) [zs,ys]:=by
 refine ⟨_,2,fun i=>if i=0 then v else u,rfl,Nat.le_refl _,by simp,fun _=>⟨w.heap.size,0,rfl,fun i hi=>?_⟩,fun i hi=>?_⟩
 ·have hr:(w.alloc (.cells #[v,u] 52)).heap[w.heap.size]?=some (.cells #[v,u] 52 (0,0)):=heap_alloc_new w _;rw [cell_of_row _ _ _ _ _ _ hr]
  match i,hi with
  | 0,_=>rfl
  | 1,_=>rfl
 ·match i,hi with
  | 0,_=>exact h.grow (Zc w _)
  | 1,_=>exact k.grow (Zc w _)
theorem Blk.readsN {t:TypeId} (h:Blk w g t (B zs)) (hb:Bytes zs) (n:Nat) (hn:zs.length=n):Reads w (.slice (some ⟨g,0,none⟩) n n) zs:=by
 subst hn;exact ⟨_,_,rfl,Nat.le_refl _,fun h=>by simp at h,hb,fun _=>⟨g,0,rfl,fun i hi=>by rw [Nat.zero_add];exact h.bcell i hi⟩⟩
end Go.Proofs.YtlclabbnpjobgaaGreatDoor
