/- A store that a walk keeps, beside blocks that it never touches: each call of it, and what stays. -/
import Derived.Test.YtbkolhhgajkjjaaGreatDoorSs01
import Derived.Test.YtbkolhhgajkjjaaGreatDoorSs32
import Derived.Test.YtbkolhhgajkjjaaGreatDoorSs30
import Derived.Test.YtbkolhhgajkjjaaGreatDoorSs33
import Derived.Test.YtbkolhhgajkjjaaGreatDoorSs40
import Derived.Test.YtbkolhhgajkjjaaGreatDoorSs36
import Derived.Test.YtbkolhhgajkjjaaGreatDoorSs34
namespace Go.Proofs.YtbkolhhgajkjjaaGreatDoor
set_option maxRecDepth 20000
open Go.RowKit

def Hs (w0 : World) (S : List Nat) (w : World) (g gs room : Nat) (cs : List (Nat × Ce)) (fr : List Nat) : Prop := STurn w0 g gs S room cs fr w ∧ Wf cs []

section
variable {w0 w : World} {S : List Nat} {g gs room : Nat} {cs : List (Nat × Ce)} {fr : List Nat}

theorem Hs.here {vp vf : Value} (s : Stm w g gs vp vf room cs fr) (W : Wf cs []) : Hs w (stB g gs vp vf cs) w g gs room cs fr := ⟨STurn.refl (Below.refl _ _) s, W⟩
theorem Hs.grow {w' : World} (h : Hs w0 S w g gs room cs fr) (hb : Below w.heap.size w w') : Hs w0 S w' g gs room cs fr := by
  obtain ⟨t, W⟩ := h
  exact ⟨t.trans fun vp vf s => STurn.refl hb (s.grow hb), W⟩
theorem hs_hold (h : Hs w0 S w g gs room cs fr) (i : Nat) (hc : 0 < cc cs i) (hm : cc cs i < 1073741824) : Calls Tryz.prog 27 #[.pointer (some ⟨g, 0, none⟩), .int .i64 ((i : Int) + 1)] w fun e w' => e = .returned (.int .i64 0) ∧ Hs w0 S w' g gs room (moreC cs i) fr := by
  obtain ⟨t, W⟩ := h
  obtain ⟨vp, vf, s, m, n⟩ := t
  refine (holdS_ok s i hc hm).mono ?_
  rintro e w' ⟨rfl, t'⟩
  obtain ⟨vp', vf', s', m', n'⟩ := t'
  exact ⟨rfl, ⟨vp', vf', s', m.trans n m', n.trans m.size n'⟩, W.more i hc⟩
theorem hs_hold_bad (h : Hs w0 S w g gs room cs fr) (q : Int) (hc : cot cs q = 0) : Calls Tryz.prog 27 #[.pointer (some ⟨g, 0, none⟩), .int .i64 q] w fun e w' => e = .returned (.int .i64 7) ∧ Hs w0 S w' g gs room cs fr := by
  have hh := h
  obtain ⟨⟨vp, vf, s, m, n⟩, W⟩ := h
  exact (holdS_bad s q hc).mono fun e w' ⟨e1, b⟩ => ⟨e1, b ▸ hh⟩
theorem hs_leaf (h : Hs w0 S w g gs room cs fr) (K : List Int) (v : Value) (bs : List Int) (hr : Reads w v bs) (hK : Key K) (hL : Laid w) (hl : bs.length ≤ 1024) (hf : ¬ Full room cs fr) : Calls Tryz.prog 23 #[.pointer (some ⟨g, 0, none⟩), .agg (B K), v] w fun e w' => ∃ v', e = .returned (.tuple #[.int .i64 (tkH cs fr : Int), .int .i64 0]) ∧ CeOk (lfC (lfD K (vaD bs)) K v' bs) ∧ Hs w0 S w' g gs room (tkC cs fr (1, lfC (lfD K (vaD bs)) K v' bs)) fr.dropLast := by
  obtain ⟨⟨vp, vf, s, m, n⟩, W⟩ := h
  have hbs : Bytes bs := by obtain ⟨_, _, _, _, _, hb, _⟩ := hr; exact hb
  refine (leafS_ok s K v bs hr hK hL hl hf).mono ?_
  rintro e w' ⟨v', rfl, ok, t⟩
  have tk := (tk_of (frOk_inv s.sl.inv) (1, lfC (lfD K (vaD bs)) K v' bs)).2
  obtain ⟨vp', vf', s', m', n'⟩ := t
  exact ⟨v', rfl, ok, ⟨vp', vf', s', m.trans n m', n.trans m.size n'⟩, W.leaf tk (leaf_ok K v' bs hbs hl) ok rfl⟩
theorem hs_inner (h : Hs w0 S w g gs room cs fr) (d l r : Nat) (hd : d < 256) (hml : mayP cs (l : Int)) (hmr : mayP cs (r : Int)) (u : Bool) (hu : u = true ↔ Und (sdC cs l).key (sdC cs r).key (d : Int)) (hf : fitP d (sdC cs l) (sdC cs r) u = true) (hL : Laid w) (hfu : ¬ Full room cs fr) : Calls Tryz.prog 29 #[.pointer (some ⟨g, 0, none⟩), .int .i64 (d : Int), .int .i64 (l : Int), .int .i64 (r : Int)] w fun e w' => ∃ cs', InnR cs fr d l r cs' ∧ e = .returned (.tuple #[.int .i64 (tkH cs fr : Int), .int .i64 0]) ∧ Hs w0 S w' g gs room cs' fr.dropLast := by
  obtain ⟨⟨vp, vf, s, m, n⟩, W⟩ := h
  refine (innerS_ok s W d l r hd hml hmr u hu hf hL hfu).mono ?_
  rintro e w' ⟨K, hK, rfl, t⟩
  have tk := (tk_of (frOk_inv s.sl.inv) (1, inC (inD (sdD cs l) (sdD cs r)) K ((sdC cs l).sz + (sdC cs r).sz) d l r)).2
  obtain ⟨vp', vf', s', m', n'⟩ := t
  exact ⟨_, ⟨K, hK, rfl⟩, rfl, ⟨vp', vf', s', m.trans n m', n.trans m.size n'⟩, W.inner tk (inn_ok W hd hml hmr hu hf hK) ⟨dig_length _, dig_bytes _, hK.1, none, 0, rfl⟩ rfl hml.own hmr.own⟩
theorem hs_drop (h : Hs w0 S w g gs room cs fr) (i : Nat) (ho : 0 < own cs [] i) : Calls Tryz.prog 31 #[.pointer (some ⟨g, 0, none⟩), .int .i64 ((i + 1 : Nat) : Int)] w fun e w' => ∃ cs' fr' n, Run cs fr [i + 1] cs' fr' n ∧ Step cs [i + 1] cs' [] n ∧ e = .returned (.tuple #[.int .i64 (n : Int), .int .i64 0]) ∧ Hs w0 S w' g gs room cs' fr' := by
  obtain ⟨⟨vp, vf, s, m, n⟩, W⟩ := h
  refine (dropS_ok s W i ho).mono ?_
  rintro e w' ⟨cs', fr', k, hr, rfl, t⟩
  have st := hr.step (W.less i ho)
  obtain ⟨vp', vf', s', m', n'⟩ := t
  exact ⟨cs', fr', k, hr, st, rfl, ⟨vp', vf', s', m.trans n m', n.trans m.size n'⟩, st.wf⟩
theorem hs_drop_miss (h : Hs w0 S w g gs room cs fr) (q : Int) (hm : cot cs q ≤ (cat cs q).ab) : Calls Tryz.prog 31 #[.pointer (some ⟨g, 0, none⟩), .int .i64 q] w fun e w' => e = .returned (.tuple #[.int .i64 0, .int .i64 7]) ∧ Hs w0 S w' g gs room cs fr := by
  have hh := h
  obtain ⟨⟨vp, vf, s, m, n⟩, W⟩ := h
  exact (dropS_miss s W q hm).mono fun e w' ⟨e1, b⟩ => ⟨e1, hh.grow b⟩
end

end Go.Proofs.YtbkolhhgajkjjaaGreatDoor

namespace Go.Proofs.YtbkolhhgajkjjaaGreatDoor
set_option maxRecDepth 20000
open Go.RowKit

theorem inv_cc {room : Nat} {cs cs' : List (Nat × Ce)} {fr : List Nat} (h : Inv room (cs.map pl) fr) (hl : cs'.length = cs.length) (hc : ∀ i, cc cs' i = cc cs i) (hn : noc cs' = noc cs) : Inv room (cs'.map pl) fr := by
  refine ⟨h.r1, h.r2, by have := h.len; rw [List.length_map] at *; omega, h.nod, fun s hs => ?_, ?_, fun i => ?_⟩
  · obtain ⟨a, b, c⟩ := h.free s hs
    rw [cnt_pl] at *
    rw [List.length_map] at *
    exact ⟨a, by omega, by rw [hc]; exact c⟩
  · have := h.sum
    rw [List.length_map] at *
    unfold noc at hn
    omega
  · have := h.most i
    rw [cnt_pl] at *
    rw [hc]
    exact this
theorem inv_ab {room : Nat} {cs cs' : List (Nat × Ce)} {fr : List Nat} (h : Inv room (cs.map pl) fr) (k : AbOf cs cs') : Inv room (cs'.map pl) fr := inv_cc h k.len k.cc k.noc
theorem inv_tk {room : Nat} {cs : List (Nat × Ce)} {fr : List Nat} (h : Inv room (cs.map pl) fr) (hf : ¬ Full room cs fr) (x : Ce) : Inv room ((tkC cs fr (1, x)).map pl) fr.dropLast := by
  rcases tk_cases cs fr with ⟨s, fr0, rfl, e1, e2⟩ | ⟨rfl, e1, e2⟩
  · rw [e2, ← map_set, List.dropLast_concat]
    exact h.takeFree (cz x)
  · rw [e2, ← map_snoc]
    refine h.takeNew ?_ (cz x)
    rw [List.length_map]
    apply Nat.lt_of_not_le
    exact fun q => hf ⟨rfl, q⟩
theorem inv_more {room : Nat} {cs : List (Nat × Ce)} {fr : List Nat} (h : Inv room (cs.map pl) fr) {i : Nat} (hc : 0 < cc cs i) (hm : cc cs i < 1073741824) : Inv room ((moreC cs i).map pl) fr := by
  unfold moreC
  rw [← map_set]
  exact h.held (by rw [cnt_pl]; exact hc) (by omega) (by omega) _
theorem inv_run {room : Nat} {cs cs' : List (Nat × Ce)} {fr fr' st : List Nat} {n : Nat} (r : Run cs fr st cs' fr' n) (h : Inv room (cs.map pl) fr) : Inv room (cs'.map pl) fr' := by
  induction r with
  | done cs fr => exact h
  | @keep cs fr i st cs' fr' n hc _ ih =>
    refine ih ?_
    unfold lessC
    rw [← map_set]
    have hm := h.most i
    rw [cnt_pl] at hm
    exact h.held (by rw [cnt_pl]; omega) (by omega) (by omega) _
  | @free cs fr i st cs' fr' n hc _ ih =>
    refine ih ?_
    unfold freeC
    refine inv_ab (inv_ab ?_ (dnA_of _ _)) (dnA_of _ _)
    rw [← map_set]
    exact h.drop (by rw [cnt_pl]; omega) _
theorem inv_inner {room : Nat} {cs cs' : List (Nat × Ce)} {fr : List Nat} {d l r : Nat} (h : Inv room (cs.map pl) fr) (hf : ¬ Full room cs fr) (hI : InnR cs fr d l r cs') : Inv room (cs'.map pl) fr.dropLast := by
  obtain ⟨KF, _, rfl⟩ := hI
  exact inv_ab (inv_ab (inv_tk h hf _) (upA_of _ _)) (upA_of _ _)
theorem Inv.lenC {room : Nat} {cs : List (Nat × Ce)} {fr : List Nat} (h : Inv room (cs.map pl) fr) : cs.length ≤ room := by have := h.len; rwa [List.length_map] at this
theorem Inv.mostC {room : Nat} {cs : List (Nat × Ce)} {fr : List Nat} (h : Inv room (cs.map pl) fr) (i : Nat) : cc cs i ≤ 1073741824 := by have := h.most i; rwa [cnt_pl] at this
theorem Inv.sumC {room : Nat} {cs : List (Nat × Ce)} {fr : List Nat} (h : Inv room (cs.map pl) fr) : fr.length + noc cs ≤ 65536 := by
  have h1 := h.sum
  have h2 := h.len
  have h3 := h.r2
  unfold noc
  omega

def Hr (w0 : World) (S : List Nat) (w : World) (q room : Nat) (cs : List (Nat × Ce)) (fr : List Nat) : Prop := (∃ ss, RT7 w0 q S room ss fr w ∧ Rel7 cs [] [] ss) ∧ Wf cs [] ∧ Inv room (cs.map pl) fr

theorem full7 {room : Nat} {cs : List (Nat × Ce)} {ss : List Sp} {fr : List Nat} (R : Rel7 cs [] [] ss) : Full room ss fr ↔ Full room cs fr := by
  unfold Full
  rw [R.len]

section
variable {w0 w : World} {S : List Nat} {q room : Nat} {cs : List (Nat × Ce)} {fr : List Nat}

theorem Hr.here {vp vf : Value} {ss : List Sp} (s : Rs w q vp vf room ss fr) (R : Rel7 cs [] [] ss) (W : Wf cs []) (I : Inv room (cs.map pl) fr) : Hr w (rsB q vp vf ss) w q room cs fr := ⟨⟨ss, ⟨vp, vf, s, Mod.refl _ _, New.refl _ _⟩, R⟩, W, I⟩
theorem Hr.wf (h : Hr w0 S w q room cs fr) : Wf cs [] := h.2.1
theorem Hr.inv (h : Hr w0 S w q room cs fr) : Inv room (cs.map pl) fr := h.2.2
theorem Hr.frok (h : Hr w0 S w q room cs fr) : FrOk cs fr := frOk_inv h.inv
theorem Hr.grow {w' : World} (h : Hr w0 S w q room cs fr) (hb : Below w.heap.size w w') : Hr w0 S w' q room cs fr := by
  obtain ⟨⟨ss, ⟨vp, vf, s, m, n⟩, R⟩, W⟩ := h
  exact ⟨⟨ss, ⟨vp, vf, s.grow hb, m.trans' (Mod.of_below hb S), n⟩, R⟩, W⟩
theorem Hr.tell {f : FuncId} {args : Array Value} {E : Ending} (h : Hr w0 S w q room cs fr) (hc : ∀ vp vf ss, Rs w q vp vf room ss fr → Rel7 cs [] [] ss → Calls Tryz.prog f args w fun e w' => e = E ∧ Below w.heap.size w w') : Calls Tryz.prog f args w fun e w' => e = E ∧ Below w.heap.size w w' := by
  obtain ⟨⟨_, ⟨_, _, s, _, _⟩, R⟩, _, _⟩ := h
  exact hc _ _ _ s R
theorem Hr.same {f : FuncId} {args : Array Value} {E : Ending} (h : Hr w0 S w q room cs fr) (hc : ∀ vp vf ss, Rs w q vp vf room ss fr → Rel7 cs [] [] ss → Calls Tryz.prog f args w fun e w' => e = E ∧ Below w.heap.size w w') : Calls Tryz.prog f args w fun e w' => e = E ∧ Hr w0 S w' q room cs fr := (h.tell hc).mono fun _ _ ⟨e1, b⟩ => ⟨e1, h.grow b⟩
theorem Hr.turn {f : FuncId} {args : Array Value} {E : Ending} {cs' : List (Nat × Ce)} {fr' : List Nat} (h : Hr w0 S w q room cs fr) (W' : Wf cs' []) (I' : Inv room (cs'.map pl) fr') (hc : ∀ vp vf ss, Rs w q vp vf room ss fr → Rel7 cs [] [] ss → Calls Tryz.prog f args w fun e w' => e = E ∧ ∃ ss', Rel7 cs' [] [] ss' ∧ RT7 w q (rsB q vp vf ss) room ss' fr' w') : Calls Tryz.prog f args w fun e w' => e = E ∧ Hr w0 S w' q room cs' fr' := by
  obtain ⟨⟨ss, ⟨vp, vf, s, m, n⟩, R⟩, W, I⟩ := h
  refine (hc _ _ _ s R).mono ?_
  rintro e w' ⟨e1, ss', R', vp', vf', s', m', n'⟩
  exact ⟨e1, ⟨ss', ⟨vp', vf', s', m.trans n m', n.trans m.size n'⟩, R'⟩, W', I'⟩

theorem hr_hold (h : Hr w0 S w q room cs fr) (i : Nat) (hc : 0 < cc cs i) (hm : cc cs i < 1073741824) : Calls Tryz.prog 28 #[.pointer (some ⟨q, 0, none⟩), .int .i64 ((i : Int) + 1)] w fun e w' => e = .returned (.int .i64 0) ∧ Hr w0 S w' q room (moreC cs i) fr := by
  have W := h.wf
  refine h.turn (W.more i hc) (inv_more h.inv hc hm) fun _ _ _ s R => ?_
  have hs := (sat_is R W ((i : Int) + 1)).sum
  rw [sat_nat, show cot cs ((i : Int) + 1) = cc cs i by rw [cot, if_pos (by omega), show ((i : Int) + 1 - 1).toNat = i by omega]] at hs
  exact (rhold7_ok s i ((R.inn W i).2 hc) (by omega)).mono fun e w3 ⟨e1, t⟩ => ⟨e1, _, R.more W hc, t⟩
theorem hr_hold_bad (h : Hr w0 S w q room cs fr) (x : Int) (hc : cot cs x = 0) : Calls Tryz.prog 28 #[.pointer (some ⟨q, 0, none⟩), .int .i64 x] w fun e w' => e = .returned (.int .i64 7) ∧ Hr w0 S w' q room cs fr := by
  have W := h.wf
  refine h.same fun _ _ _ s R => (rhold7_bad s x ?_).mono fun e w'' ⟨e1, e2⟩ => ⟨e1, by rw [e2]; exact Below.refl _ _⟩
  rw [(sat_is R W x).kind, W.cat0 hc]
  rfl
theorem hr_hold_long (h : Hr w0 S w q room cs fr) (i : Nat) (hc : cc cs i = 1073741824) : Calls Tryz.prog 28 #[.pointer (some ⟨q, 0, none⟩), .int .i64 ((i : Int) + 1)] w fun e w' => e = .returned (.int .i64 4) ∧ Hr w0 S w' q room cs fr := by
  have W := h.wf
  refine h.same fun _ _ _ s R => ?_
  have hs := (sat_is R W ((i : Int) + 1)).sum
  rw [sat_nat, show cot cs ((i : Int) + 1) = cc cs i by rw [cot, if_pos (by omega), show ((i : Int) + 1 - 1).toNat = i by omega]] at hs
  exact rhold7_long s i ((R.inn W i).2 (by omega)) (by omega)

theorem hr_drop (h : Hr w0 S w q room cs fr) (i : Nat) (ho : 0 < own cs [] i) {cs' : List (Nat × Ce)} {fr' : List Nat} {n : Nat} (r : Run cs fr [i + 1] cs' fr' n) : Calls Tryz.prog 32 #[.pointer (some ⟨q, 0, none⟩), .int .i64 ((i : Int) + 1)] w fun e w' => e = .returned (.tuple #[.int .i64 (n : Int), .int .i64 0]) ∧ Hr w0 S w' q room cs' fr' := by
  have W := h.wf
  exact h.turn (r.step (W.less i ho)).wf (inv_run r h.inv) fun _ _ _ s R => rdrop7_ok s R W i ho h.inv.mostC h.inv.sumC r
theorem hr_drop_miss (h : Hr w0 S w q room cs fr) (x : Int) (hm : cot cs x ≤ (cat cs x).ab) : Calls Tryz.prog 32 #[.pointer (some ⟨q, 0, none⟩), .int .i64 x] w fun e w' => e = .returned (.tuple #[.int .i64 0, .int .i64 7]) ∧ Hr w0 S w' q room cs fr :=
  h.same fun _ _ _ s R => rdrop7_miss s x (by rw [(sat_is R h.wf x).own]; omega)

theorem hr_leaf (h : Hr w0 S w q room cs fr) (h5 : room ≤ 5000) (K : List Int) (v v' : Value) (bs : List Int) (hr : Reads w v bs) (hK : Key K) (hl : bs.length ≤ 1024) (hf : ¬ Full room cs fr) (ok : CeOk (lfC (lfD K (vaD bs)) K v' bs)) : Calls Tryz.prog 24 #[.pointer (some ⟨q, 0, none⟩), .agg (B K), v] w fun e w' => e = .returned (.tuple #[.int .i64 (tkH cs fr : Int), .int .i64 0]) ∧ Hr w0 S w' q room (tkC cs fr (1, lfC (lfD K (vaD bs)) K v' bs)) fr.dropLast := by
  have W := h.wf
  have I := h.inv
  have hF := h.frok
  have hbs : Bytes bs := by obtain ⟨_, _, _, _, _, hb, _⟩ := hr; exact hb
  have tk := (tk_of hF (1, lfC (lfD K (vaD bs)) K v' bs)).2
  refine h.turn (W.leaf tk (leaf_ok K v' bs hbs hl) ok rfl) (inv_tk I hf _) fun _ _ _ s R => ?_
  refine (rleaf7_ok s (hF.slots R.len) K v bs hr hK hl (fun f => hf ((full7 R).1 f)) (by rw [R.len]; have := I.lenC; omega)).mono ?_
  rintro e w3 ⟨a, c, rfl, t⟩
  exact ⟨by rw [tkH_len fr R.len], _, R.leaf hF _ K v' _ bs, t⟩
theorem hr_leaf_full (h : Hr w0 S w q room cs fr) (K : List Int) (v : Value) (bs : List Int) (hr : Reads w v bs) (hl : bs.length ≤ 1024) (hf : Full room cs fr) : Calls Tryz.prog 24 #[.pointer (some ⟨q, 0, none⟩), .agg (B K), v] w fun e w' => e = .returned (.tuple #[.int .i64 0, .int .i64 9]) ∧ Hr w0 S w' q room cs fr := by
  obtain ⟨a2, c2, e2, _⟩ := hr
  rw [e2]
  exact h.same fun _ _ _ s R => rleaf7_full s K a2 bs.length c2 hl ((full7 R).2 hf)
theorem hr_leaf_long (h : Hr w0 S w q room cs fr) (K : List Int) (v : Value) (bs : List Int) (hr : Reads w v bs) (hl : 1024 < bs.length) : Calls Tryz.prog 24 #[.pointer (some ⟨q, 0, none⟩), .agg (B K), v] w fun e w' => e = .returned (.tuple #[.int .i64 0, .int .i64 4]) ∧ Hr w0 S w' q room cs fr := by
  obtain ⟨a2, c2, e2, _⟩ := hr
  rw [e2]
  exact h.same fun _ _ _ s _ => rleaf7_long s K a2 bs.length c2 hl

theorem hr_fit (h5 : room ≤ 5000) (I : Inv room (cs.map pl) fr) (W : Wf cs []) {d l r : Nat} (hd : d < 256) (hml : mayP cs (l : Int)) (hmr : mayP cs (r : Int)) {u : Bool} (hu : u = true ↔ Und (sdC cs l).key (sdC cs r).key (d : Int)) {vp vf : Value} {ss : List Sp} (s : Rs w q vp vf room ss fr) (R : Rel7 cs [] [] ss) : Fit7 w q d l r (fitP d (sdC cs l) (sdC cs r) u) := fun w'' hb => by
  have := rfits7 (s.grow hb) R W (by have := I.lenC; omega) hd hml hmr (u := u) (by rw [cat_nat, cat_nat]; exact hu)
  rwa [cat_nat, cat_nat] at this

theorem inn_wf (W : Wf cs []) (hF : FrOk cs fr) {cs' : List (Nat × Ce)} {d l r : Nat} (hd : d < 256) (hml : mayP cs (l : Int)) (hmr : mayP cs (r : Int)) {u : Bool} (hu : u = true ↔ Und (sdC cs l).key (sdC cs r).key (d : Int)) (hf : fitP d (sdC cs l) (sdC cs r) u = true) (hI : InnR cs fr d l r cs') : Wf cs' [] := by
  obtain ⟨K, hK, rfl⟩ := hI
  have tk := (tk_of hF (1, inC (inD (sdD cs l) (sdD cs r)) K ((sdC cs l).sz + (sdC cs r).sz) d l r)).2
  exact W.inner tk (inn_ok W hd hml hmr hu hf hK) ⟨dig_length _, dig_bytes _, hK.1, none, 0, rfl⟩ rfl hml.own hmr.own

theorem hr_inner (h : Hr w0 S w q room cs fr) (h5 : room ≤ 5000) (d l r : Nat) (hd : d < 256) (hml : mayP cs (l : Int)) (hmr : mayP cs (r : Int)) (u : Bool) (hu : u = true ↔ Und (sdC cs l).key (sdC cs r).key (d : Int)) (hf : fitP d (sdC cs l) (sdC cs r) u = true) (hfu : ¬ Full room cs fr) {cs' : List (Nat × Ce)} (hI : InnR cs fr d l r cs') : Calls Tryz.prog 30 #[.pointer (some ⟨q, 0, none⟩), .int .i64 (d : Int), .int .i64 (l : Int), .int .i64 (r : Int)] w fun e w' => e = .returned (.tuple #[.int .i64 (tkH cs fr : Int), .int .i64 0]) ∧ Hr w0 S w' q room cs' fr.dropLast := by
  have W := h.wf
  have I := h.inv
  have hF := h.frok
  have W' := inn_wf W hF hd hml hmr hu hf hI
  have hne : l ≠ 0 → l ≠ r := by
    obtain ⟨KF, hKF, _⟩ := hI
    exact fun h0 => sides_ne (inn_ok W hd hml hmr hu hf hKF) h0
  refine h.turn W' (inv_inner I hfu hI) fun _ _ _ s R => ?_
  have fit := hr_fit h5 I W hd hml hmr hu s R
  rw [hf] at fit
  refine (rinner7_ok s (hF.slots R.len) R W d l r hd hml hmr fit (fun f => hfu ((full7 R).1 f)) (by rw [R.len]; have := I.lenC; omega) (ov7_l R W I.mostC hml) (ov7_r R W I.mostC hml hmr hne)).mono ?_
  rintro e w3 ⟨rfl, t⟩
  exact ⟨by rw [tkH_len fr R.len], _, R.inner W W' hF hml hmr hI, t⟩
theorem hr_inner_arg (h : Hr w0 S w q room cs fr) (d l r : Int) (hd : d < 0 ∨ 256 ≤ d) : Calls Tryz.prog 30 #[.pointer (some ⟨q, 0, none⟩), .int .i64 d, .int .i64 l, .int .i64 r] w fun e w' => e = .returned (.tuple #[.int .i64 0, .int .i64 2]) ∧ Hr w0 S w' q room cs fr := h.same fun _ _ _ s _ => rinner7_arg s d l r hd
theorem hr_inner_miss (h : Hr w0 S w q room cs fr) (d : Nat) (l r : Int) (hd : d < 256) (hm : ¬ (mayP cs l ∧ mayP cs r)) : Calls Tryz.prog 30 #[.pointer (some ⟨q, 0, none⟩), .int .i64 (d : Int), .int .i64 l, .int .i64 r] w fun e w' => e = .returned (.tuple #[.int .i64 0, .int .i64 7]) ∧ Hr w0 S w' q room cs fr := h.same fun _ _ _ s R => rinner7_miss s R h.wf d l r hd hm
theorem hr_inner_unfit (h : Hr w0 S w q room cs fr) (h5 : room ≤ 5000) (d l r : Nat) (hd : d < 256) (hml : mayP cs (l : Int)) (hmr : mayP cs (r : Int)) (u : Bool) (hu : u = true ↔ Und (sdC cs l).key (sdC cs r).key (d : Int)) (hf : fitP d (sdC cs l) (sdC cs r) u = false) : Calls Tryz.prog 30 #[.pointer (some ⟨q, 0, none⟩), .int .i64 (d : Int), .int .i64 (l : Int), .int .i64 (r : Int)] w fun e w' => e = .returned (.tuple #[.int .i64 0, .int .i64 2]) ∧ Hr w0 S w' q room cs fr := h.same fun _ _ _ s R => by
  have fit := hr_fit h5 h.inv h.wf hd hml hmr hu s R
  rw [hf] at fit
  exact rinner7_unfit s R h.wf d l r hd hml hmr fit
theorem hr_inner_full (h : Hr w0 S w q room cs fr) (h5 : room ≤ 5000) (d l r : Nat) (hd : d < 256) (hml : mayP cs (l : Int)) (hmr : mayP cs (r : Int)) (u : Bool) (hu : u = true ↔ Und (sdC cs l).key (sdC cs r).key (d : Int)) (hf : fitP d (sdC cs l) (sdC cs r) u = true) (hfu : Full room cs fr) : Calls Tryz.prog 30 #[.pointer (some ⟨q, 0, none⟩), .int .i64 (d : Int), .int .i64 (l : Int), .int .i64 (r : Int)] w fun e w' => e = .returned (.tuple #[.int .i64 0, .int .i64 9]) ∧ Hr w0 S w' q room cs fr := h.same fun _ _ _ s R => by
  have fit := hr_fit h5 h.inv h.wf hd hml hmr hu s R
  rw [hf] at fit
  exact rinner7_full s R h.wf d l r hd hml hmr fit ((full7 R).2 hfu)
end

end Go.Proofs.YtbkolhhgajkjjaaGreatDoor

namespace Go.Proofs.YtbkolhhgajkjjaaGreatDoor
set_option maxRecDepth 20000
open Go.RowKit

def M7 (w0 : World) (S : List Nat) (w : World) (g gs q room : Nat) (cs : List (Nat × Ce)) (fr : List Nat) (ss : List Sp) (fr2 : List Nat) : Prop := ∃ vp vf vp2 vf2, Stm w g gs vp vf room cs fr ∧ Rs w q vp2 vf2 room ss fr2 ∧ (∀ k ∈ stB g gs vp vf cs, k ∉ rsB q vp2 vf2 ss) ∧ Mod S w0 w ∧ New S w0 (stB g gs vp vf cs) ∧ New S w0 (rsB q vp2 vf2 ss)
def P7 (w0 : World) (S : List Nat) (w : World) (g gs q room : Nat) (cs : List (Nat × Ce)) (fr : List Nat) : Prop := ∃ ss, M7 w0 S w g gs q room cs fr ss fr ∧ Rel7 cs [] [] ss ∧ Wf cs []
def Two7 (w0 : World) (S : List Nat) (g gs q room : Nat) (f : FuncId) (args : Array Value) (E : Ending) (cs' : List (Nat × Ce)) (fr' : List Nat) (w' : World) : Prop := ∃ ss fr2, M7 w0 S w' g gs q room cs' fr' ss fr2 ∧ ∀ w'', M7 w0 S w'' g gs q room cs' fr' ss fr2 → Calls Tryz.prog f args w'' fun e w3 => e = E ∧ P7 w0 S w3 g gs q room cs' fr'

section
variable {w0 w : World} {S : List Nat} {g gs q room : Nat} {cs : List (Nat × Ce)} {fr : List Nat} {ss : List Sp} {fr2 : List Nat}

theorem M7.mod (h : M7 w0 S w g gs q room cs fr ss fr2) : Mod S w0 w := by obtain ⟨_, _, _, _, _, _, _, m, _, _⟩ := h; exact m
theorem M7.grow {w' : World} (h : M7 w0 S w g gs q room cs fr ss fr2) (hb : Below w.heap.size w w') : M7 w0 S w' g gs q room cs fr ss fr2 := by
  obtain ⟨vp, vf, vp2, vf2, s, d, ap, m, n1, n2⟩ := h
  exact ⟨vp, vf, vp2, vf2, s.grow hb, d.grow hb, ap, m.trans' (Mod.of_below hb S), n1, n2⟩
theorem M7.inv (h : M7 w0 S w g gs q room cs fr ss fr2) : Inv room (cs.map pl) fr := by
  obtain ⟨vp, vf, vp2, vf2, s, _⟩ := h
  exact s.sl.inv
theorem M7.useS {f : FuncId} {args : Array Value} {P : Ending → List (Nat × Ce) → List Nat → Prop} (h : M7 w0 S w g gs q room cs fr ss fr2) (hW : Wf cs []) (hc : ∀ S', Hs w S' w g gs room cs fr → (∀ P : World → Prop, Kq S w0 P → Kq S' w P) → Calls Tryz.prog f args w fun e w' => ∃ cs' fr', P e cs' fr' ∧ Hs w S' w' g gs room cs' fr') : Calls Tryz.prog f args w fun e w' => ∃ cs' fr', P e cs' fr' ∧ Wf cs' [] ∧ M7 w0 S w' g gs q room cs' fr' ss fr2 := by
  obtain ⟨vp, vf, vp2, vf2, s, d, ap, m, n1, n2⟩ := h
  refine (hc _ (Hs.here s hW) fun P k => k.turn m n1).mono ?_
  rintro e w' ⟨cs', fr', hp, ⟨vp', vf', s', m', n'⟩, W'⟩
  refine ⟨cs', fr', hp, W', vp', vf', vp2, vf2, s', d.mod m' (fun k hk hs => ap k hs hk), fun k hk hk2 => ?_, m.trans n1 m', n1.trans m.size n', n2⟩
  rcases n' k hk with e | e
  · exact ap k e hk2
  · have := d.lts k hk2
    omega
theorem M7.useR {f : FuncId} {args : Array Value} {E : Ending} {cs1 : List (Nat × Ce)} (h : M7 w0 S w g gs q room cs fr ss fr2) (R : Rel7 cs1 [] [] ss) (W : Wf cs1 []) (I : Inv room (cs1.map pl) fr2) (W' : Wf cs []) (hc : ∀ S', Hr w S' w q room cs1 fr2 → (∀ P : World → Prop, Kq S w0 P → Kq S' w P) → Calls Tryz.prog f args w fun e w' => e = E ∧ Hr w S' w' q room cs fr) : Calls Tryz.prog f args w fun e w' => e = E ∧ P7 w0 S w' g gs q room cs fr := by
  obtain ⟨vp, vf, vp2, vf2, s, d, ap, m, n1, n2⟩ := h
  refine (hc _ (Hr.here d R W I) fun P k => k.turn m n2).mono ?_
  rintro e w' ⟨e1, ⟨ss', ⟨vp', vf', d', m', n'⟩, R'⟩, _, _⟩
  refine ⟨e1, ss', ⟨vp, vf, vp', vf', s.mod m' (fun k hk => ap k hk), d', fun k hk hk2 => ?_, m.trans n2 m', n1, n2.trans m.size n'⟩, R', W'⟩
  rcases n' k hk2 with e | e
  · exact ap k hk e
  · have := s.lts k hk
    omega
theorem M7.from (h : M7 w0 S w g gs q room cs fr ss fr2) : ∃ S', M7 w S' w g gs q room cs fr ss fr2 ∧ (∀ P : World → Prop, Kq S w0 P → Kq S' w P) ∧ (∀ k ∈ S', k < w.heap.size) ∧ ∀ w' cs' fr' ss' fr2', M7 w S' w' g gs q room cs' fr' ss' fr2' → M7 w0 S w' g gs q room cs' fr' ss' fr2' := by
  obtain ⟨vp, vf, vp2, vf2, s, d, ap, m, n1, n2⟩ := h
  have n : New S w0 (stB g gs vp vf cs ++ rsB q vp2 vf2 ss) := fun k hk => by
    rcases List.mem_append.1 hk with e | e
    · exact n1 k e
    · exact n2 k e
  refine ⟨stB g gs vp vf cs ++ rsB q vp2 vf2 ss, ⟨vp, vf, vp2, vf2, s, d, ap, Mod.refl _ _, fun k hk => .inl (by simp [hk]), fun k hk => .inl (by simp [hk])⟩, fun P k => k.turn m n, fun k hk => ?_, fun w' cs' fr' ss' fr2' k => ?_⟩
  · rcases List.mem_append.1 hk with e | e
    · exact s.lts k e
    · exact d.lts k e
  · obtain ⟨vp', vf', vp2', vf2', s', d', ap', m', n1', n2'⟩ := k
    exact ⟨vp', vf', vp2', vf2', s', d', ap', m.trans n m', n.trans m.size n1', n.trans m.size n2'⟩

theorem P7.grow {w' : World} (h : P7 w0 S w g gs q room cs fr) (hb : Below w.heap.size w w') : P7 w0 S w' g gs q room cs fr := by
  obtain ⟨ss, M, R, W⟩ := h
  exact ⟨ss, M.grow hb, R, W⟩
theorem P7.mod (h : P7 w0 S w g gs q room cs fr) : Mod S w0 w := by obtain ⟨ss, M, R, W⟩ := h; exact M.mod
theorem P7.kq {P : World → Prop} (h : P7 w0 S w g gs q room cs fr) (k : Kq S w0 P) : P w := k w h.mod
theorem P7.wf (h : P7 w0 S w g gs q room cs fr) : Wf cs [] := by obtain ⟨ss, M, R, W⟩ := h; exact W
theorem P7.inv (h : P7 w0 S w g gs q room cs fr) : Inv room (cs.map pl) fr := by obtain ⟨ss, M, R, W⟩ := h; exact M.inv
theorem P7.vw (h : P7 w0 S w g gs q room cs fr) : Vw w (.pointer (some ⟨g, 0, none⟩)) true (cot cs) (cat cs) := by
  obtain ⟨ss, ⟨vp, vf, vp2, vf2, s, _⟩, R, W⟩ := h
  exact vw_ok s W
theorem P7.from (h : P7 w0 S w g gs q room cs fr) : ∃ S', P7 w S' w g gs q room cs fr ∧ (∀ P : World → Prop, Kq S w0 P → Kq S' w P) ∧ (∀ k ∈ S', k < w.heap.size) ∧ ∀ w' cs' fr', P7 w S' w' g gs q room cs' fr' → P7 w0 S w' g gs q room cs' fr' := by
  obtain ⟨ss, M, R, W⟩ := h
  obtain ⟨S', M', h1, h2, h3⟩ := M.from
  refine ⟨S', ⟨ss, M', R, W⟩, h1, h2, fun w' cs' fr' k => ?_⟩
  obtain ⟨ss', k1, k2, k3⟩ := k
  exact ⟨ss', h3 _ _ _ _ _ k1, k2, k3⟩
theorem Two7.mod {f : FuncId} {args : Array Value} {E : Ending} (h : Two7 w0 S g gs q room f args E cs fr w) : Mod S w0 w := by obtain ⟨ss, fr2, M, h⟩ := h; exact M.mod
theorem Two7.kq {f : FuncId} {args : Array Value} {E : Ending} {P : World → Prop} (h : Two7 w0 S g gs q room f args E cs fr w) (k : Kq S w0 P) : P w := k w h.mod
theorem Two7.go {f : FuncId} {args : Array Value} {E : Ending} (h : Two7 w0 S g gs q room f args E cs fr w) : Calls Tryz.prog f args w fun e w3 => e = E ∧ P7 w0 S w3 g gs q room cs fr := by
  obtain ⟨ss, fr2, M, h⟩ := h
  exact h _ M

theorem P7.two {f f2 : FuncId} {args args2 : Array Value} {Q : Ending → List (Nat × Ce) → List Nat → Prop} (h : P7 w0 S w g gs q room cs fr) (hc : ∀ S', Hs w S' w g gs room cs fr → (∀ P : World → Prop, Kq S w0 P → Kq S' w P) → Calls Tryz.prog f args w fun e w' => ∃ cs' fr', Q e cs' fr' ∧ Hs w S' w' g gs room cs' fr') (hr : ∀ E cs' fr', Q E cs' fr' → ∀ w' S', Hr w' S' w' q room cs fr → Mod S w0 w' → (∀ P : World → Prop, Kq S w0 P → Kq S' w' P) → Calls Tryz.prog f2 args2 w' fun e w'' => e = E ∧ Hr w' S' w'' q room cs' fr') : Calls Tryz.prog f args w fun e w' => ∃ cs' fr', Q e cs' fr' ∧ Two7 w0 S g gs q room f2 args2 e cs' fr' w' := by
  have I := h.inv
  obtain ⟨ss, M, R, W⟩ := h
  refine (M.useS W hc).mono ?_
  rintro e w' ⟨cs', fr', hq, W', M'⟩
  exact ⟨cs', fr', hq, ss, fr, M', fun w'' M2 => M2.useR R W I W' fun S' H hk => hr e cs' fr' hq w'' S' H M2.mod hk⟩
theorem P7.stay {f f2 : FuncId} {args args2 : Array Value} {E : Ending} (h : P7 w0 S w g gs q room cs fr) (hc : ∀ S', Hs w S' w g gs room cs fr → Calls Tryz.prog f args w fun e w' => e = E ∧ Hs w S' w' g gs room cs fr) (hr : ∀ w' S', Hr w' S' w' q room cs fr → Mod S w0 w' → Calls Tryz.prog f2 args2 w' fun e w'' => e = E ∧ Hr w' S' w'' q room cs fr) : Calls Tryz.prog f args w fun e w' => e = E ∧ Two7 w0 S g gs q room f2 args2 E cs fr w' := by
  refine (h.two (f2 := f2) (args2 := args2) (Q := fun e cs' fr' => e = E ∧ cs' = cs ∧ fr' = fr) (fun S' H _ => (hc S' H).mono fun e w' ⟨e1, k⟩ => ⟨cs, fr, ⟨e1, rfl, rfl⟩, k⟩) ?_).mono ?_
  · rintro _ _ _ ⟨rfl, rfl, rfl⟩ w' S' H m _
    exact hr w' S' H m
  · rintro e w' ⟨_, _, ⟨rfl, rfl, rfl⟩, t⟩
    exact ⟨rfl, t⟩

theorem hs_hold_long (h : Hs w0 S w g gs room cs fr) (i : Nat) (hc : cc cs i = 1073741824) : Calls Tryz.prog 27 #[.pointer (some ⟨g, 0, none⟩), .int .i64 ((i : Int) + 1)] w fun e w' => e = .returned (.int .i64 4) ∧ Hs w0 S w' g gs room cs fr := by
  have hh := h
  obtain ⟨⟨vp, vf, s, m, n⟩, W⟩ := h
  exact (holdS_long s i hc).mono fun e w' ⟨e1, b⟩ => ⟨e1, b ▸ hh⟩

theorem more_own {cs : List (Nat × Ce)} (W : Wf cs []) {i : Nat} (hi : 0 < cc cs i) (j : Nat) : Go.Proofs.YtbkolhhgajkjjaaGreatDoor.own (moreC cs i) [] j = Go.Proofs.YtbkolhhgajkjjaaGreatDoor.own cs [] j + (if i = j then 1 else 0) := by
  have := W.le j
  rw [List.count_nil] at this
  unfold Go.Proofs.YtbkolhhgajkjjaaGreatDoor.own
  rw [moreC_cc hi, moreC_ce, List.count_nil]
  omega

theorem hold7 (h : P7 w0 S w g gs q room cs fr) (x : Int) : Calls Tryz.prog 27 #[.pointer (some ⟨g, 0, none⟩), .int .i64 x] w fun e w' => ∃ er cs' fr', e = .returned (.int .i64 er) ∧ Two7 w0 S g gs q room 28 #[.pointer (some ⟨q, 0, none⟩), .int .i64 x] (.returned (.int .i64 er)) cs' fr' w' ∧ ∀ j, own cs' [] j ≤ own cs [] j + 1 := by
  have W := h.wf
  by_cases hc : cot cs x = 0
  · exact (h.stay (fun S' H => hs_hold_bad H x hc) (fun w' S' H _ => hr_hold_bad H x hc)).mono fun e w' ⟨e1, k⟩ => ⟨7, cs, fr, e1, k, fun j => Nat.le_add_right _ _⟩
  · obtain ⟨i, rfl, h2, h3, h4⟩ := cot_in (cs := cs) (h := x) (by omega)
    have hmo := h.inv.mostC i
    by_cases hl : cc cs i = 1073741824
    · exact (h.stay (fun S' H => hs_hold_long H i hl) (fun w' S' H _ => hr_hold_long H i hl)).mono fun e w' ⟨e1, k⟩ => ⟨4, cs, fr, e1, k, fun j => Nat.le_add_right _ _⟩
    · refine (h.two (f2 := 28) (args2 := #[.pointer (some ⟨q, 0, none⟩), .int .i64 ((i : Int) + 1)]) (Q := fun e cs' fr' => e = .returned (.int .i64 0) ∧ cs' = moreC cs i ∧ fr' = fr) (fun S' H _ => (hs_hold H i h2 (by omega)).mono fun e w' ⟨e1, k⟩ => ⟨_, _, ⟨e1, rfl, rfl⟩, k⟩) ?_).mono ?_
      · rintro _ _ _ ⟨rfl, rfl, rfl⟩ w' S' H _ _
        exact hr_hold H i h2 (by omega)
      · rintro e w' ⟨_, _, ⟨rfl, rfl, rfl⟩, t⟩
        refine ⟨0, _, _, rfl, t, fun j => ?_⟩
        rw [more_own W h2]
        split <;> omega

theorem drop7 (h : P7 w0 S w g gs q room cs fr) (x : Int) : Calls Tryz.prog 31 #[.pointer (some ⟨g, 0, none⟩), .int .i64 x] w fun e w' => ∃ n er cs' fr', e = .returned (.tuple #[.int .i64 n, .int .i64 er]) ∧ Two7 w0 S g gs q room 32 #[.pointer (some ⟨q, 0, none⟩), .int .i64 x] (.returned (.tuple #[.int .i64 n, .int .i64 er])) cs' fr' w' ∧ ∀ j, own cs' [] j ≤ own cs [] j := by
  have W := h.wf
  by_cases hm : cot cs x ≤ (cat cs x).ab
  · exact (h.stay (fun S' H => hs_drop_miss H x hm) (fun w' S' H _ => hr_drop_miss H x hm)).mono fun e w' ⟨e1, k⟩ => ⟨0, 7, cs, fr, e1, k, fun j => Nat.le_refl _⟩
  · obtain ⟨i, rfl, h2, h3, h4⟩ := cot_in (cs := cs) (h := x) (by omega)
    rw [h3, h4] at hm
    have ho : 0 < Go.Proofs.YtbkolhhgajkjjaaGreatDoor.own cs [] i := by
      unfold Go.Proofs.YtbkolhhgajkjjaaGreatDoor.own
      rw [List.count_nil]
      omega
    refine (h.two (f2 := 32) (args2 := #[.pointer (some ⟨q, 0, none⟩), .int .i64 ((i : Int) + 1)]) (Q := fun e cs' fr' => ∃ n, Run cs fr [i + 1] cs' fr' n ∧ Step cs [i + 1] cs' [] n ∧ e = .returned (.tuple #[.int .i64 (n : Int), .int .i64 0])) (fun S' H _ => (hs_drop H i ho).mono fun e w' ⟨cs', fr', n, r, st, e1, k⟩ => ⟨_, _, ⟨n, r, st, e1⟩, k⟩) ?_).mono ?_
    · rintro _ cs' fr' ⟨n, r, st, rfl⟩ w' S' H _ _
      exact hr_drop H i ho r
    · rintro e w' ⟨cs', fr', ⟨n, r, st, rfl⟩, t⟩
      refine ⟨n, 0, _, _, rfl, t, fun j => ?_⟩
      rw [st.own j]
      unfold Go.Proofs.YtbkolhhgajkjjaaGreatDoor.own
      rw [List.count_nil]
      omega

theorem leaf7 (h : P7 w0 S w g gs q room cs fr) (h5 : room ≤ 5000) (K : List Int) (v v2 : Value) (bs : List Int) (hr : Reads w v bs) (hr2 : Kq S w0 fun w' => Reads w' v2 bs) (hK : Key K) (hL : Laid w) (hm : bs.length ≤ 140737488355328) : Calls Tryz.prog 23 #[.pointer (some ⟨g, 0, none⟩), .agg (B K), v] w fun e w' => ∃ x er cs' fr', e = .returned (.tuple #[.int .i64 x, .int .i64 er]) ∧ Two7 w0 S g gs q room 24 #[.pointer (some ⟨q, 0, none⟩), .agg (B K), v2] (.returned (.tuple #[.int .i64 x, .int .i64 er])) cs' fr' w' := by
  have W := h.wf
  by_cases hl : bs.length ≤ 1024
  · by_cases hf : Full room cs fr
    · refine (h.stay (fun S' H => ?_) (fun w' S' H m => hr_leaf_full H K v2 bs (hr2 _ m) hl hf)).mono fun e w' ⟨e1, k⟩ => ⟨0, 9, cs, fr, e1, k⟩
      have hh := H
      obtain ⟨⟨vp, vf, s, m, n⟩, _⟩ := H
      exact (leafS_full s K v bs hr hK hL hl hf).mono fun e w' ⟨e1, b⟩ => ⟨e1, hh.grow b⟩
    · refine (h.two (f2 := 24) (args2 := #[.pointer (some ⟨q, 0, none⟩), .agg (B K), v2]) (Q := fun e cs' fr' => ∃ v', CeOk (lfC (lfD K (vaD bs)) K v' bs) ∧ e = .returned (.tuple #[.int .i64 (tkH cs fr : Int), .int .i64 0]) ∧ cs' = tkC cs fr (1, lfC (lfD K (vaD bs)) K v' bs) ∧ fr' = fr.dropLast) (fun S' H _ => (hs_leaf H K v bs hr hK hL hl hf).mono fun e w' ⟨v', e1, ok, k⟩ => ⟨_, _, ⟨v', ok, e1, rfl, rfl⟩, k⟩) ?_).mono ?_
      · rintro _ _ _ ⟨v', ok, rfl, rfl, rfl⟩ w' S' H m _
        exact hr_leaf H h5 K v2 v' bs (hr2 _ m) hK hl hf ok
      · rintro e w' ⟨_, _, ⟨v', ok, rfl, rfl, rfl⟩, t⟩
        exact ⟨_, 0, _, _, rfl, t⟩
  · refine (h.stay (fun S' H => ?_) (fun w' S' H m => hr_leaf_long H K v2 bs (hr2 _ m) (by omega))).mono fun e w' ⟨e1, k⟩ => ⟨0, 4, cs, fr, e1, k⟩
    have hh := H
    obtain ⟨⟨vp, vf, s, m, n⟩, _⟩ := H
    exact (leafS_long s K v bs hr hK (by omega) hm).mono fun e w' ⟨e1, b⟩ => ⟨e1, hh.grow b⟩

theorem und_ex (A C : List Int) (d : Int) : ∃ u : Bool, u = true ↔ Und A C d := by
  by_cases q : Und A C d
  · exact ⟨true, by simp [q]⟩
  · exact ⟨false, by simp [q]⟩

theorem inner7 (h : P7 w0 S w g gs q room cs fr) (h5 : room ≤ 5000) (d l r : Int) (hL : Laid w) : Calls Tryz.prog 29 #[.pointer (some ⟨g, 0, none⟩), .int .i64 d, .int .i64 l, .int .i64 r] w fun e w' => ∃ x er cs' fr', e = .returned (.tuple #[.int .i64 x, .int .i64 er]) ∧ Two7 w0 S g gs q room 30 #[.pointer (some ⟨q, 0, none⟩), .int .i64 d, .int .i64 l, .int .i64 r] (.returned (.tuple #[.int .i64 x, .int .i64 er])) cs' fr' w' := by
  have W := h.wf
  by_cases hd : d < 0 ∨ 256 ≤ d
  · refine (h.stay (fun S' H => ?_) (fun w' S' H m => hr_inner_arg H d l r hd)).mono fun e w' ⟨e1, k⟩ => ⟨0, 2, cs, fr, e1, k⟩
    have hh := H
    obtain ⟨⟨vp, vf, s, m, n⟩, _⟩ := H
    exact (innerS_arg s d l r hd).mono fun e w' ⟨e1, b⟩ => ⟨e1, hh.grow b⟩
  · obtain ⟨dn, rfl⟩ : ∃ n : Nat, d = (n : Int) := ⟨d.toNat, by omega⟩
    have hdn : dn < 256 := by omega
    by_cases hm : mayP cs l ∧ mayP cs r
    · obtain ⟨hl, hr⟩ := hm
      obtain ⟨ln, rfl⟩ := hl.nat
      obtain ⟨rn, rfl⟩ := hr.nat
      obtain ⟨u, hu⟩ := und_ex (sdC cs ln).key (sdC cs rn).key (dn : Int)
      cases hf : fitP dn (sdC cs ln) (sdC cs rn) u with
      | false =>
        refine (h.stay (fun S' H => ?_) (fun w' S' H m => hr_inner_unfit H h5 dn ln rn hdn hl hr u hu hf)).mono fun e w' ⟨e1, k⟩ => ⟨0, 2, cs, fr, e1, k⟩
        have hh := H
        obtain ⟨⟨vp, vf, s, m, n⟩, _⟩ := H
        exact (innerS_unfit s W dn ln rn hdn hl hr u hu hf).mono fun e w' ⟨e1, b⟩ => ⟨e1, hh.grow b⟩
      | true =>
        by_cases hfu : Full room cs fr
        · refine (h.stay (fun S' H => ?_) (fun w' S' H m => hr_inner_full H h5 dn ln rn hdn hl hr u hu hf hfu)).mono fun e w' ⟨e1, k⟩ => ⟨0, 9, cs, fr, e1, k⟩
          have hh := H
          obtain ⟨⟨vp, vf, s, m, n⟩, _⟩ := H
          exact (innerS_full s W dn ln rn hdn hl hr u hu hf hL hfu).mono fun e w' ⟨e1, b⟩ => ⟨e1, hh.grow b⟩
        · refine (h.two (f2 := 30) (args2 := #[.pointer (some ⟨q, 0, none⟩), .int .i64 (dn : Int), .int .i64 (ln : Int), .int .i64 (rn : Int)]) (Q := fun e cs' fr' => InnR cs fr dn ln rn cs' ∧ e = .returned (.tuple #[.int .i64 (tkH cs fr : Int), .int .i64 0]) ∧ fr' = fr.dropLast) (fun S' H _ => (hs_inner H dn ln rn hdn hl hr u hu hf hL hfu).mono fun e w' ⟨cs', i, e1, k⟩ => ⟨_, _, ⟨i, e1, rfl⟩, k⟩) ?_).mono ?_
          · rintro _ cs' _ ⟨hi, rfl, rfl⟩ w' S' H _ _
            exact hr_inner H h5 dn ln rn hdn hl hr u hu hf hfu hi
          · rintro e w' ⟨cs', _, ⟨hi, rfl, rfl⟩, t⟩
            exact ⟨_, 0, _, _, rfl, t⟩
    · refine (h.stay (fun S' H => ?_) (fun w' S' H m => hr_inner_miss H dn l r hdn hm)).mono fun e w' ⟨e1, k⟩ => ⟨0, 7, cs, fr, e1, k⟩
      have hh := H
      obtain ⟨⟨vp, vf, s, m, n⟩, _⟩ := H
      exact (innerS_miss s W dn l r hdn hm).mono fun e w' ⟨e1, b⟩ => ⟨e1, hh.grow b⟩
end

end Go.Proofs.YtbkolhhgajkjjaaGreatDoor
