/- A law's call of both stores (act), as a contract: it is answered as the document says. -/
import Derived.Test.YtbkolhhgajkjjaaGreatDoorPo46
import Derived.Test.YtbkolhhgajkjjaaGreatDoorPo50
namespace Go.Proofs.YtbkolhhgajkjjaaGreatDoor
set_option maxRecDepth 20000
open Go.RowKit
section
variable {w0 w w1 w2 : World} {S : List Nat} {g gs q room : Nat} {cs : List (Nat × Ce)} {fr : List Nat}
theorem P7.rebase (h : P7 w S w g gs q room cs fr) (hb : Below w.heap.size w w1) : P7 w1 S w1 g gs q room cs fr := by
 obtain ⟨ss, ⟨vp, vf, vp2, vf2, s, d, ap, m, n1, n2⟩, R, W⟩ := h
 refine ⟨ss, ⟨vp, vf, vp2, vf2, s.grow hb, d.grow hb, ap, Mod.refl _ _, fun k hk => ?_, fun k hk => ?_⟩, R, W⟩
 ·rcases n1 k hk with e | e
  ·exact .inl e
  ·have := s.lts k hk
   omega
 ·rcases n2 k hk with e | e
  ·exact .inl e
  ·have := d.lts k hk
   omega
theorem P7.back (hb : Below w.heap.size w w1) (h : P7 w1 S w2 g gs q room cs fr) : P7 w S w2 g gs q room cs fr := by
 obtain ⟨ss, ⟨vp, vf, vp2, vf2, s, d, ap, m, n1, n2⟩, R, W⟩ := h
 refine ⟨ss, ⟨vp, vf, vp2, vf2, s, d, ap, (Mod.of_below hb S).trans' m, fun k hk => ?_, fun k hk => ?_⟩, R, W⟩
 ·rcases n1 k hk with e | e
  ·exact .inl e
  ·exact .inr (Nat.le_trans hb.size e)
 ·rcases n2 k hk with e | e
  ·exact .inl e
  ·exact .inr (Nat.le_trans hb.size e)
theorem P7.over {w3 : World} {b : Nat} (hb : Below w.heap.size w w1) (h : P7 w1 S w2 g gs q room cs fr) (h1 : w.heap.size ≤ b) (h2 : b < w1.heap.size) (h3 : b ∉ S) (hg : w2.grownBy w3 (some b)) : P7 w S w3 g gs q room cs fr := by
 have m3 : Mod [b] w2 w3 := Mod.of_some hg (by simp)
 have hb' := P7.back hb h
 obtain ⟨ss, ⟨vp, vf, vp2, vf2, s, d, ap, m, n1, n2⟩, R, W⟩ := h
 have a1 : ∀ k ∈ stB g gs vp vf cs, k ∉ [b] := fun k hk e => by
  obtain rfl : k = b := by simpa using e
  rcases n1 k hk with e | e
  ·exact h3 e
  ·omega
 have a2 : ∀ k ∈ rsB q vp2 vf2 ss, k ∉ [b] := fun k hk e => by
  obtain rfl : k = b := by simpa using e
  rcases n2 k hk with e | e
  ·exact h3 e
  ·omega
 refine ⟨ss, ⟨vp, vf, vp2, vf2, s.mod m3 a1, d.mod m3 a2, ap, hb'.mod.trans (fun k hk => .inr ?_) m3, fun k hk => ?_, fun k hk => ?_⟩, R, W⟩
 ·obtain rfl : k = b := by simpa using hk
  exact h1
 ·rcases n1 k hk with e | e
  ·exact .inl e
  ·exact .inr (Nat.le_trans hb.size e)
 ·rcases n2 k hk with e | e
  ·exact .inl e
  ·exact .inr (Nat.le_trans hb.size e)
theorem Ycu (h : P7 w0 S w g gs q room cs fr) (h5 : room ≤ 5000) (hL : Laid w) (deep : Bool) (hd : deep = true → room ≤ 60) : Calls Tryz.prog 11 #[.pointer (some ⟨g, 0, none⟩), .pointer (some ⟨q, 0, none⟩), .bool deep] w fun e w' => e = .returned (.bool true) ∧ Below w.heap.size w w' := by
 have hl := h.inv.lenC
 obtain ⟨ss, ⟨vp, vf, vp2, vf2, s, d, ap, m, n1, n2⟩, R, W⟩ := h
 exact Yhn s d R W hL (by omega) deep (fun e => by have := hd e; omega)
end
theorem Kq.row {S : List Nat} {w : World} {b : Nat} {zs : List Int} (h : Row w b zs) (hn : b ∉ S) : Kq S w (fun w' => Row w' b zs) := fun _ m => h.of_block (m.block b h.lt hn)
def ActPost7 (w0 : World) (S : List Nat) (g gs q room : Nat) (e : Ending) (w' : World) : Prop := e = .returned (.bool true) ∧ ∃ cs fr, P7 w0 S w' g gs q room cs fr
theorem Zvs {w : World} {b : Nat} {zs : List Int} (h : Row w b (zs ++ marks zs.length)) (hb : Bytes zs) (hl : zs.length ≤ 2000) : Own 0 w (.slice (some ⟨b, 0, none⟩) zs.length (zs.length + 5)) zs (marks zs.length) := by
 have h1 := Own.mk (base := 0) hb (Zio zs.length) (by rw [Zbo]; simp only [maxLen]; omega) (Nat.zero_le _) h
 rw [Zbo] at h1
 exact h1
def Lent7 (w : World) (S : List Nat) (g gs q room : Nat) (cs : List (Nat × Ce)) (fr : List Nat) (bs : List Int) (b : Nat) (w2 : World) : Prop := Below w.heap.size w w2 ∧ w.heap.size ≤ b ∧ b < w2.heap.size ∧ b ∉ S ∧ Kq S w2 (fun w' => Own 0 w' (.slice (some ⟨b, 0, none⟩) bs.length (bs.length + 5)) bs (marks bs.length)) ∧ Kq S w2 (fun w' => Row w' b (bs ++ marks bs.length)) ∧ P7 w2 S w2 g gs q room cs fr
theorem Yhu {w w1 : World} {S : List Nat} {g gs q room : Nat} {cs : List (Nat × Ce)} {fr : List Nat} {v : Value} {bs : List Int} (HS : ∀ b, w.heap.size ≤ b → b ∉ S) (h : P7 w S w g gs q room cs fr) (hb : Below w.heap.size w w1) (hr : Kq S w fun w' => Reads w' v bs) (hl : bs.length ≤ 2000) : Calls Tryz.prog 22 #[v] w1 fun e w2 => ∃ b, e = .returned (.slice (some ⟨b, 0, none⟩) bs.length (bs.length + 5)) ∧ Lent7 w S g gs q room cs fr bs b w2 ∧ Below w1.heap.size w1 w2 := by
 have hr1 := (hr.grow hb).now
 have hby : Bytes bs := by obtain ⟨_, _, _, _, _, hb, _⟩ := hr1; exact hb
 refine (Zqo v bs w1 hr1 (by omega)).mono ?_
 rintro e w2 ⟨rfl, r2, b2, s2⟩
 have hn := HS _ hb.size
 have k := Kq.row r2 hn
 exact ⟨_, rfl, ⟨Zb hb b2, hb.size, by omega, hn, k.imp fun w' _ r => Zvs r hby hl, k, h.rebase (Zb hb b2)⟩, b2⟩
end Go.Proofs.YtbkolhhgajkjjaaGreatDoor
namespace Go.Proofs.YtbkolhhgajkjjaaGreatDoor
set_option maxRecDepth 20000
open Go.RowKit
def Aw (w : World) (S : List Nat) (w' : World) (g gs room r n m : Nat) (es : List Ent) : Prop := ∃ cs fr T, Hs w S w' g gs room cs fr ∧ Rt cs r T ∧ T.ents.Perm es ∧ noc cs = n ∧ (∀ i, own cs [] i ≤ m) ∧ cs.length ≤ n
end Go.Proofs.YtbkolhhgajkjjaaGreatDoor
namespace Go.Proofs.YtbkolhhgajkjjaaGreatDoor
set_option maxRecDepth 20000
open Go.RowKit
def apL (k : Int) (K : List Int) (v : Value) (h : Int) : List Value := .int .i64 k :: (K.map (Value.int .u8) ++ [v, .int .i64 h])
theorem Zbi (k : Int) (K : List Int) (v : Value) (h : Int) (hK : K.length = 32) : (apL k K v h).length = 35 := by simp [apL, hK]
theorem Zpo {k : Int} {K : List Int} {v : Value} {h : Int} (hK : K.length = 32) : (apL k K v h)[33]? = some v ∧ (apL k K v h)[34]? = some (.int .i64 h) := by
 have e : apL k K v h = (.int .i64 k :: K.map (Value.int .u8)) ++ [v, .int .i64 h] := rfl
 have hl : (Value.int .i64 k :: K.map (Value.int .u8)).length = 33 := by simp [hK]
 rw [e]
 exact ⟨by rw [List.getElem?_append_right (by omega), hl]; rfl, by rw [List.getElem?_append_right (by omega), hl]; rfl⟩
theorem Zfd {w : World} {b : Nat} {t : TypeId} {k : Int} {K : List Int} {v : Value} {h : Int} (hb : Blk w b t (apL k K v h).toArray) : w.cell? ⟨b, 0, none⟩ = some (.int .i64 k) := by rw [hb.cell]; rfl
theorem Zhh {w : World} {b : Nat} {t : TypeId} {k : Int} {K : List Int} {v : Value} {h : Int} (hb : Blk w b t (apL k K v h).toArray) (hK : K.length = 32) : w.cell? ⟨b, 33, none⟩ = some v := by rw [hb.cell]; simpa using (Zpo hK).1
theorem Zcn {w : World} {b : Nat} {t : TypeId} {k : Int} {K : List Int} {v : Value} {h : Int} (hb : Blk w b t (apL k K v h).toArray) (hK : K.length = 32) : w.cell? ⟨b, 34, none⟩ = some (.int .i64 h) := by rw [hb.cell]; simpa using (Zpo hK).2
theorem Zht {w : World} {b : Nat} {t : TypeId} {k : Int} {K : List Int} {v : Value} {h : Int} (hb : Blk w b t (apL k K v h).toArray) : w.rangeAt b 1 (K.map (Value.int .u8)) := fun j u hu => by
 rw [hb.cell]
 have hj : j < (K.map (Value.int .u8)).length := (List.getElem?_eq_some_iff.1 hu).1
 show (apL k K v h).toArray[1 + j]? = some u
 rw [List.getElem?_toArray, show 1 + j = j + 1 by omega]
 show (K.map (Value.int .u8) ++ [v, .int .i64 h])[j]? = some u
 rw [List.getElem?_append_left hj]
 exact hu
end Go.Proofs.YtbkolhhgajkjjaaGreatDoor
