/- KeptBytes, as a contract: what was lent and not turned is told so. -/
import Derived.Test.YtgfdgjkbcdmboaaGreatDoorAc11
import Derived.Lib.MakeNoZero
namespace Go.Proofs.YtgfdgjkbcdmboaaGreatDoor
set_option maxRecDepth 20000
open Go.RowKit
theorem Row.reads {w:World} {g:Nat} {all:List Int} (h:Row w g all) (hb:Bytes all) (c:Nat) (hc:all.length≤c):Reads w (.slice (some ⟨g,0,none⟩) all.length c) all:=
 ⟨_,_,rfl,hc,fun h=>by simp at h,hb,fun _=>⟨g,0,rfl,fun i hi=>by rw [Nat.zero_add];exact h.cell i hi⟩⟩
set_option maxHeartbeats 1000000 in
theorem Zyp (g n m:Nat) (a:Option Addr) (c:Nat) (S:ByteArray) (zs:List Int) (w:World) (h5:(n:Int)+5≤(m:Int)) (h6:(0:Int)≤(n:Int)+5) (hl:n≤140737488355328)
  (HC:Hid (∀w',Below w.heap.size w w'→(convert 72 9 (.slice (some ⟨g,0,none⟩) m m)).run Tryz.prog w'=.ok (.string S) w'))
  (HC2:Hid (∀w' g',Row w' g' (zs++marks n)→(convert 72 9 (.slice (some ⟨g',0,none⟩) ((n:Int)+5).toNat m)).run Tryz.prog w'=.ok (.string S) w'))
  (HL:Hid (Calls Tryz.prog 125 #[.slice a n c] w.drew fun e w'=>e=.returned (.slice (some ⟨w.heap.size,0,none⟩) n m)∧Row w' w.heap.size (zs++marks n)∧Below w.heap.size w w')):
  Calls Tryz.prog 128 #[.slice (some ⟨g,0,none⟩) n m,.slice a n c] w fun e w'=>e=.returned (.bool true)∧Below w.heap.size w w':=by
 have hwr:IntKind.i64.wrap ((n:Int)+5)=(n:Int)+5:=by rw [IntKind.wrap_i64];omega
 go_enter Tryz.func128,Tryz.ntmps128
 go_wp2_with fail
 go_region_held (fun w'=>(convert 72 9 (.slice (some ⟨g,0,none⟩) m m)).run Tryz.prog w'=.ok (.string S) w')
  (first | exact HC.out _ (Below.refl _ _).drew | exact HC.out _ (by assumption))
  (first | (go_at_call 125;refine HL.out.mono ?_;rintro e w1 ⟨rfl,hr1,hb1⟩;have c2:=HC2.out w1 w.heap.size hr1))
 go_wp2
 go_ret
 exact ⟨rfl,by assumption⟩
theorem Zyo (g:Nat) (v:Value) (zs:List Int) (w:World) (hr:Row w g (zs++marks zs.length)) (h:Reads w v zs) (hl:zs.length≤140737488355328):
  Calls Tryz.prog 128 #[.slice (some ⟨g,0,none⟩) zs.length (zs.length+5),v] w fun e w'=>e=.returned (.bool true)∧Below w.heap.size w w':=by
 have hby:Bytes (zs++marks zs.length):=by
  obtain ⟨_,_,_,_,_,h1,_⟩:=h
  exact h1.append (Zje _)
 have hlen:(zs++marks zs.length).length=zs.length+5:=by simp [Zbj]
 have h':=h
 obtain ⟨a,c,rfl,_,_,_,_⟩:=h'
 refine Zyp g zs.length (zs.length+5) a c (strOfNums (zs++marks zs.length)) zs w (by omega) (by omega) hl ?_ ?_ ?_
 ·intro w' hb
  have hr':Row w' g (zs++marks zs.length):=hr.of_block (hb.block g hr.lt)
  have:=Zck (hr'.reads hby (zs.length+5) (by omega))
  rw [hlen] at this
  exact this
 ·intro w' g' hr'
  have:=Zck (hr'.reads hby (zs.length+5) (by omega))
  rw [hlen] at this
  rw [show ((zs.length:Int)+5).toNat=zs.length+5 by omega]
  exact this
 ·refine (Zry _ zs w.drew (by exact h) hl).mono ?_
  rintro e w1 ⟨rfl,hr1,hb1,hs1⟩
  exact ⟨rfl,hr1,Yjw hb1⟩
def Parts (w:World) (v:Value) (ps:List (List Int)):Prop:=
 ∃(a:Option Addr) (cap:Nat) (V:Nat→Value),v=.slice a ps.length cap∧ps.length≤cap∧ps.length≤140737488355328∧(0<ps.length→∃b off,a=some ⟨b,off,none⟩∧∀i,i<ps.length→w.cell? ⟨b,off+i,none⟩=some (V i))∧∀i,i<ps.length→Reads w (V i) (ps.getD i [])
def lens (ps:List (List Int)) (k:Nat):Nat:=((ps.take k).flatten).length
theorem Zyl (ps:List (List Int)) (k:Nat) (h:k<ps.length):lens ps (k+1)=lens ps k+(ps.getD k []).length:=by
 unfold lens
 rw [List.take_succ_eq_append_getElem h,List.flatten_append,List.length_append]
 simp [List.getD,h]
theorem Zzh (ps:List (List Int)) (k:Nat) (h:k<ps.length):(ps.take (k+1)).flatten=(ps.take k).flatten++ps.getD k []:=by
 rw [List.take_succ_eq_append_getElem h,List.flatten_append]
 simp [List.getD,h]
theorem Yig (ps:List (List Int)) (k:Nat):lens ps k≤ps.flatten.length:=by
 unfold lens
 conv=>rhs;rw [← List.take_append_drop k ps,List.flatten_append,List.length_append]
 omega
def JoinPost (zs:List Int) (w:World) (e:Ending) (w':World):Prop:=∃u sp,e=.returned u∧Own w.heap.size w' u zs sp∧Below w.heap.size w w'
theorem Zxw (w:World):Parts w (.slice none 0 0) []:=⟨none,0,fun _=>.slice none 0 0,rfl,by simp,by simp,fun h=>by simp at h,fun i hi=>by simp at hi⟩
theorem Zxv (w:World) (v:Value) (zs:List Int) (h:Reads w v zs):Parts (w.alloc (.cells #[v] 72)) (.slice (some ⟨w.heap.size,0,none⟩) 1 1) [zs]:=by
 refine ⟨_,1,fun _=>v,rfl,Nat.le_refl _,by simp,fun _=>⟨w.heap.size,0,rfl,fun i hi=>?_⟩,fun i hi=>?_⟩
 ·have hr:(w.alloc (.cells #[v] 72)).heap[w.heap.size]?=some (.cells #[v] 72 (0,0)):=heap_alloc_new w _
  rw [cell_of_row _ _ _ _ _ _ hr]
  match i,hi with
  | 0,_=>rfl
 ·match i,hi with
  | 0,_=>exact h.grow (Zd w _)
theorem Zne (w:World) (v u:Value) (zs ys:List Int) (h:Reads w v zs) (k:Reads w u ys):Parts (w.alloc (.cells #[v,u] 72)) (.slice (some ⟨w.heap.size,0,none⟩) 2 2) [zs,ys]:=by
 refine ⟨_,2,fun i=>if i=0 then v else u,rfl,Nat.le_refl _,by simp,fun _=>⟨w.heap.size,0,rfl,fun i hi=>?_⟩,fun i hi=>?_⟩
 ·have hr:(w.alloc (.cells #[v,u] 72)).heap[w.heap.size]?=some (.cells #[v,u] 72 (0,0)):=heap_alloc_new w _
  rw [cell_of_row _ _ _ _ _ _ hr]
  match i,hi with
  | 0,_=>rfl
  | 1,_=>rfl
 ·match i,hi with
  | 0,_=>exact h.grow (Zd w _)
  | 1,_=>exact k.grow (Zd w _)
theorem Blk.readsN {w:World} {g:Nat} {t:TypeId} {zs:List Int} (h:Blk w g t (B zs)) (hb:Bytes zs) (n:Nat) (hn:zs.length=n):Reads w (.slice (some ⟨g,0,none⟩) n n) zs:=by
 subst hn
 exact ⟨_,_,rfl,Nat.le_refl _,fun h=>by simp at h,hb,fun _=>⟨g,0,rfl,fun i hi=>by rw [Nat.zero_add];exact h.bcell i hi⟩⟩
end Go.Proofs.YtgfdgjkbcdmboaaGreatDoor
