/- PackBack's walk: the law returns true at every proof, all bytes and every byte more, and nothing that was in memory turns. -/
import Derived.Test.YtpihigcnoifcfaaGreatDoorVw26
import Derived.Test.YtpihigcnoifcfaaGreatDoorVw28
import Derived.Test.YtpihigcnoifcfaaGreatDoorVw16
import Derived.Test.YtpihigcnoifcfaaGreatDoorVw05
import Derived.Test.YtpihigcnoifcfaaGreatDoorVw19
import Derived.Test.YtpihigcnoifcfaaGreatDoorVw27
import Derived.Deep.RegionHeld2
namespace Go.Proofs.YtpihigcnoifcfaaGreatDoor
set_option maxRecDepth 20000
open Go.RowKit

theorem ownHs_kp {w : World} {base n : Nat} {v : Value} {xs : List Value} (h : w.ownsRow base 25 32 v n xs) : Kp w (fun w' => w'.ownsRow base 25 32 v n xs) := fun _ q => ownsH_below h q

/-- Decode, told apart. -/
theorem dec_yes {v : Value} {zs : List Int} {w : World} (h : Reads w v zs) (hl : zs.length ≤ 140737488355328) (hL : Laid w) (hok : okD zs) {hs : List (List Int)} {N : List Int} (h1 : (pR zs).1 = hs) (h2 : dcN (pR zs).2.1 = N) (n : Nat) (hn : hs.length = n) :
    Calls Tryz.prog 18 #[v] w fun e w' => ∃ a c, e = .returned (.tuple #[.agg (encR (.slice a n c) N).toArray, .int .i64 0]) ∧ w'.ownsRow w.heap.size 25 32 (.slice a n c) n (flatH hs) ∧ Below w.heap.size w w' := by
  refine (pkdecode_any v zs w h hl hL).mono ?_
  rintro e w' ⟨a, c, e1, e2, e3⟩
  have e4 : dpH zs = hs := by rw [dpH, if_pos hok, h1]
  have e5 : dpN zs = N := by rw [dpN, if_pos hok, h2]
  have e6 : dpE zs = 0 := by rw [dpE, if_pos hok]
  rw [e4, e5, e6, hn] at e1
  rw [e4, hn] at e2
  exact ⟨a, c, e1, e2, e3⟩
theorem dec_no {v : Value} {zs : List Int} {w : World} (h : Reads w v zs) (hl : zs.length ≤ 140737488355328) (hL : Laid w) (hok : ¬ okD zs) :
    Calls Tryz.prog 18 #[v] w fun e w' => ∃ a c, e = .returned (.tuple #[.agg (encR (.slice a 0 c) (nd 0 z32 z32 z32 z32)).toArray, .int .i64 10]) ∧ Below w.heap.size w w' := by
  refine (pkdecode_any v zs w h hl hL).mono ?_
  rintro e w' ⟨a, c, e1, e2, e3⟩
  have e4 : dpH zs = [] := by rw [dpH, if_neg hok]
  have e5 : dpN zs = nd 0 z32 z32 z32 z32 := by rw [dpN, if_neg hok]
  have e6 : dpE zs = 10 := by rw [dpE, if_neg hok]
  rw [e4, e5, e6] at e1
  exact ⟨a, c, e1, e3⟩
theorem enc_yes {s : Value} {hs : List (List Int)} {k : Int} {a b c d : List Int} {w : World} (hh : HsAt w s hs) (hN : Nd k a b c d) (hL : Laid w) {X : List Int} {E : Int} (h1 : exP hs k a b c d = X) (h2 : chE hs k a b c d = E) :
    Calls Tryz.prog 7 #[.agg (encR s (nd k a b c d)).toArray] w fun e w' => ∃ xa xc sp, e = .returned (.tuple #[.slice xa X.length xc, .int .i64 E]) ∧ Own w.heap.size w' (.slice xa X.length xc) X sp ∧ Below w.heap.size w w' := by
  refine (pkencode_any s hs k a b c d w hh hN hL).mono ?_
  rintro e w' ⟨v, sp, e1, e2, e3⟩
  obtain ⟨xa, xc, rfl⟩ := e2.slice
  rw [h1] at e1 e2
  rw [h2] at e1
  exact ⟨xa, xc, sp, e1, e2, e3⟩
/-- load of a proof's end, where it is wanted. -/
theorem wpList_ldeg {ops : Array Oper} {rest : List Oper} {op : Oper} {a : Act} {Q : Exit → Act → World → Prop} (w : World) (hgd : Region.wanted op (yielded ops a.tmps) = true) (x : Operand) (ho : op.op = .load 33 x)
    (g : Nat) (t : TypeId) (s : Value) (z : List Int) (hx : a.eval x = .pointer (some ⟨g, 1, none⟩)) (h : Blk w g t (encR s z).toArray) (hl : z.length = 129)
    (hk : wpList Tryz.prog ops Q rest (a.put op.dst (.agg (B z))) w) : wpList Tryz.prog ops Q (op :: rest) a w := by
  obtain ⟨fs, hu⟩ := u_node
  exact BigFrame.wpList_want hgd fun _ hK => wp_load_mid 33 x ho g 1 hx (z.map (Value.int .u8)) _ (proof_end h) hu rfl (by rw [List.length_map, hl]; exact size_node) (hK _ _ hk)

theorem own_ln {w : World} {xa : Option Addr} {n c : Nat} {zs sp : List Int} {b : Nat} (h : Own b w (.slice xa n c) zs sp) : zs.length = n ∧ n ≤ c := by
  obtain ⟨a', c', e, h1, _⟩ := h.reads
  injection e with e1 e2 e3
  subst e2
  subst e3
  exact ⟨rfl, h1⟩
theorem own_pos {w : World} {xa : Option Addr} {n c : Nat} {zs sp : List Int} {b : Nat} (h : Own b w (.slice xa n c) zs sp) (hn : 0 < n) : ∃ g, xa = some ⟨g, 0, none⟩ := by
  obtain ⟨_, _, _, h4⟩ := h
  rcases h4 with ⟨e, _⟩ | ⟨g, rest, _, e, _⟩
  · injection e with _ e2
    omega
  · injection e with e1
    exact ⟨g, e1⟩
theorem own_cut {w : World} {xa : Option Addr} {n c : Nat} {zs sp : List Int} {b : Nat} (h : Own b w (.slice xa n c) zs sp) (m : Nat) (hm : m ≤ n) : Reads w (.slice xa m c) (zs.take m) := by
  have e := (own_ln h).1
  have := h.reads
  rw [← e] at this hm
  exact this.cutfront m hm

end Go.Proofs.YtpihigcnoifcfaaGreatDoor

/- The document's Encode, Digest of nodes, as contracts. -/
namespace Go.Proofs.YtpihigcnoifcfaaGreatDoor
set_option maxRecDepth 20000
open Go.RowKit

theorem txN_len {k : Int} {a b c d : List Int} (h : Nd k a b c d) : (txN k a b c d).length ≤ 65 := by
  unfold txN
  split
  · split
    · simp [h.la, h.lb]
    · split
      · simp [h.lc, h.ld]
      · simp
  · simp

end Go.Proofs.YtpihigcnoifcfaaGreatDoor

/- The document's Set (rootcellarref04), as a contract. -/
namespace Go.Proofs.YtpihigcnoifcfaaGreatDoor
set_option maxRecDepth 20000
open Go.RowKit

theorem u_b32 : Tryz.prog.underlying 23 = some (.array 32 5) := Tryz.underlying23
theorem b32_size {xs : List Int} (h : Key xs) : (Tryz.prog.info? 23).map (·.size) = some (B xs).size := by rw [B_size, h.1]; exact size_b32

theorem set_key (xs : List Int) (d : Nat) (b z : Int) (hx : Key xs) (hd : d < 256) (hb : b = 0 ∨ b = 1) (hz : z = xs.getD (d / 8) 0 + (b - kb xs d) * 2 ^ (7 - d % 8)) : 0 ≤ z ∧ z ≤ 255 ∧ IsSet xs d b (xs.set (d / 8) z) := by
  obtain ⟨⟨h1, h2⟩, h3⟩ := bt_put (xs.getD (d / 8) 0) b (hx.byte _) hb (d % 8) (by omega)
  have e : xs.getD (d / 8) 0 + (b - bt (xs.getD (d / 8) 0) (d % 8)) * 2 ^ (7 - d % 8) = z := hz.symm
  rw [e] at h1 h2 h3
  refine ⟨h1, h2, hx.set _ _ ⟨h1, h2⟩, fun j hj => ?_⟩
  rw [kb_set _ _ _ _ (by rw [hx.1]; omega)]
  by_cases q : j / 8 = d / 8
  · rw [if_pos q, h3 _ (by omega)]
    by_cases p : j % 8 = d % 8
    · rw [if_pos p, if_pos (by omega)]
    · rw [if_neg p, if_neg (by omega)]
      unfold kb
      rw [q]
  · rw [if_neg q, if_neg (by omega)]

end Go.Proofs.YtpihigcnoifcfaaGreatDoor
