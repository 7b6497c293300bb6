/- Lists of digests and proofs in memory; rootcellarkit.SameHashes and SameProof, as contracts. -/
import Derived.Test.YtpihigcnoifcfaaGreatDoorVw19
import Derived.Test.YtpihigcnoifcfaaGreatDoorVw20
import Derived.Deep.RegionHeld
import Derived.Test.YtpihigcnoifcfaaGreatDoorVw01
namespace Go.Proofs.YtpihigcnoifcfaaGreatDoor
set_option maxRecDepth 20000
open Go.RowKit

/-- A slice of digests. -/
def HsAt (w : World) (v : Value) (hs : List (List Int)) : Prop :=
  ∃ a cap, v = .slice a hs.length cap ∧ hs.length ≤ cap ∧ (0 < hs.length → ∃ g off, a = some ⟨g, off, none⟩ ∧ ∀ i, i < hs.length → w.rangeAt g (off + i * 32) (B (hs.getD i [])).toList) ∧
    ∀ i, i < hs.length → (hs.getD i []).length = 32 ∧ Bytes (hs.getD i [])
theorem HsAt.grow {w w' : World} {v : Value} {hs : List (List Int)} (h : HsAt w v hs) (hb : Below w.heap.size w w') : HsAt w' v hs := by
  obtain ⟨a, cap, e, h1, h2, h3⟩ := h
  refine ⟨a, cap, e, h1, fun hp => ?_, h3⟩
  obtain ⟨g, off, ea, hr⟩ := h2 hp
  exact ⟨g, off, ea, fun i hi => rng_grow (hr i hi) hb⟩
theorem HsAt.kp {w : World} {v : Value} {hs : List (List Int)} (h : HsAt w v hs) : Kp w (fun w' => HsAt w' v hs) := fun _ q => h.grow q
theorem HsAt.nil (w : World) : HsAt w (.slice none 0 0) [] := ⟨none, 0, rfl, by simp, fun h => by simp at h, fun i hi => by simp at hi⟩

/-- A proof's cells: its sides, its end. -/
def encR (s : Value) (z : List Int) : List Value := s :: z.map (Value.int .u8)
theorem encR_length (s : Value) (z : List Int) (h : z.length = 129) : (encR s z).length = 130 := by simp [encR, h]
theorem size_proof : (Tryz.prog.info? 35).map (·.size) = some 130 := by kernel_rfl

theorem u_proof : ∃ fs, Tryz.prog.underlying 35 = some (.struct fs) := ⟨_, Tryz.underlying35⟩

theorem proof_side {w : World} {g : Nat} {t : TypeId} {s : Value} {z : List Int} (h : Blk w g t (encR s z).toArray) : w.cell? ⟨g, 0, none⟩ = some s := by
  rw [h.cell]
  simp [encR]
theorem proof_end {w : World} {g : Nat} {t : TypeId} {s : Value} {z : List Int} (h : Blk w g t (encR s z).toArray) : w.rangeAt g 1 (z.map (Value.int .u8)) := by
  intro j v hv
  rw [h.cell]
  simp only [encR, List.getElem?_toArray]
  rw [Nat.add_comm, List.getElem?_cons_succ]
  exact hv

/-- load of a proof's end. -/
theorem wpList_lde {ops : Array Oper} {rest : List Oper} {op : Oper} {a : Act} {Q : Exit → Act → World → Prop} (w : World) (hgd : op.guard = none) (x : Operand) (ho : op.op = .load 33 x)
    (g : Nat) (t : TypeId) (s : Value) (z : List Int) (hx : a.eval x = .pointer (some ⟨g, 1, none⟩)) (h : Blk w g t (encR s z).toArray) (hl : z.length = 129)
    (hk : wpList Tryz.prog ops Q rest (a.put op.dst (.agg (B z))) w) : wpList Tryz.prog ops Q (op :: rest) a w := by
  obtain ⟨fs, hu⟩ := u_node
  exact wpList_load_mid hgd 33 x ho g 1 hx (z.map (Value.int .u8)) _ (proof_end h) hu rfl (by rw [List.length_map, hl]; exact size_node) hk

end Go.Proofs.YtpihigcnoifcfaaGreatDoor

/- A region that draws its order, whose last operation (number L, for which all others are waited) may write what the loads ahead of it read: what is held (S) is asked for behind every operation but that one. -/
namespace Go.Proofs.YtpihigcnoifcfaaGreatDoor
set_option maxRecDepth 20000
open Go Go.RowKit

section
variable {P : Program} {ops : Array Oper} {Q : Exit → Act → World → Prop} {md : Region.Mode} {S : World → Prop} {L : Nat}

/-- Whatever has come up, what it waits for has come up too. -/
def shutB (md : Region.Mode) (ops : Array Oper) (listed : Array Bool) : Bool :=
  (List.range ops.size).all fun c => !listed.getD c false || match ops[c]? with
    | none => true
    | some o => o.after.all fun e => !Region.binds md e || listed.getD e.on false
def ShutL (md : Region.Mode) (ops : Array Oper) (listed : Array Bool) : Prop := ∀ c o, ops[c]? = some o → listed.getD c false = true → ∀ e ∈ o.after, Region.binds md e = true → listed.getD e.on false = true
theorem shutL_of {listed : Array Bool} (h : shutB md ops listed = true) : ShutL md ops listed := by
  intro c o ho hl e he hb
  unfold shutB at h
  rw [List.all_eq_true] at h
  have h1 := h c (List.mem_range.2 (Array.getElem?_eq_some_iff.1 ho).1)
  simp only [hl, ho, Bool.not_true, Bool.false_or, Array.all_eq_true_iff_forall_mem] at h1
  have h2 := h1 e he
  simpa [hb] using h2
theorem ShutL.step {listed : Array Bool} {j : Nat} (h : ShutL md ops listed) (hj : j ∈ Region.ready md ops listed) : ShutL md ops (listed.setIfInBounds j true) := by
  intro c o ho hl e he hb
  by_cases hcj : j = c
  · subst hcj
    obtain ⟨_, o', ho', hall⟩ := mem_ready.1 hj
    rw [ho] at ho'
    obtain rfl := Option.some.inj ho'
    exact getD_set_true (hall e he hb)
  · rw [getD_set_ne false hcj] at hl
    exact getD_set_true (h c o ho hl e he hb)

/-- c waits for i, itself or by others. -/
def leads (md : Region.Mode) (ops : Array Oper) (i : Nat) : Nat → Nat → Bool
  | 0, _ => false
  | n + 1, c => match ops[c]? with
    | none => false
    | some o => o.after.any fun e => Region.binds md e && (e.on == i || leads md ops i n e.on)
theorem leads_on {listed : Array Bool} {i : Nat} (hs : ShutL md ops listed) (hi : listed.getD i false = false) : ∀ (n c : Nat), leads md ops i n c = true → ∀ o, ops[c]? = some o → (∀ e ∈ o.after, Region.binds md e = true → listed.getD e.on false = true) → False
  | 0, _, h, _, _, _ => by simp [leads] at h
  | n + 1, c, h, o, ho, hall => by
    unfold leads at h
    rw [ho] at h
    obtain ⟨e, he, hb⟩ := Array.any_eq_true'.1 h
    simp only [Bool.and_eq_true, Bool.or_eq_true, beq_iff_eq] at hb
    have h1 := hall e he hb.1
    rcases hb.2 with q | q
    · rw [q, hi] at h1
      cases h1
    · cases ho2 : ops[e.on]? with
      | none =>
        cases n with
        | zero => simp [leads] at q
        | succ n => unfold leads at q; rw [ho2] at q; cases q
      | some o2 => exact leads_on hs hi n e.on q o2 ho2 (hs e.on o2 ho2 h1)

/-- Whatever order is picked from here on, and S holds behind every operation but the last. -/
def wpAnyL (P : Program) (md : Region.Mode) (ops : Array Oper) (Q : Exit → Act → World → Prop) (S : World → Prop) (L : Nat) : Nat → Array Bool → Act → World → Prop
  | 0, listed, a, w => Region.ready md ops listed = [] ∧ Q .normal a w
  | fuel + 1, listed, a, w =>
    (Region.ready md ops listed = [] → Q .normal a w) ∧
    ∀ i ∈ Region.ready md ops listed, wpOp P ops Q i (fun a' w' => (i = L ∨ S w') ∧ wpAnyL P md ops Q S L fuel (listed.setIfInBounds i true) a' w') a w

theorem wpAny_of_last : ∀ (fuel : Nat) (listed : Array Bool) (a : Act) (w : World), wpAnyL P md ops Q S L fuel listed a w → wpAny P md ops Q fuel listed a w
  | 0, _, _, _, h => h
  | fuel + 1, _, _, _, h => ⟨h.1, fun i hi => wpOp_mono (fun a' w' h' => wpAny_of_last fuel _ a' w' h'.2) (h.2 i hi)⟩

theorem wpAnyL_first {i n : Nat} {oi : Oper} {v : Value} (hi : ops[i]? = some oi) (hsel : ∀ (j : Nat) (o : Oper) cs b, ops[j]? = some o → o.op ≠ .select cs b)
    (hQ : ∀ c a w, Q (.panic c) (a.put oi.dst v) w → Q (.panic c) a w) (hld : leads md ops i n L = true) :
    ∀ (fuel : Nat) (listed : Array Bool) (a : Act) (w : World), ShutL md ops listed →
      (∀ j oj, ops[j]? = some oj → j ≠ i → listed.getD j true = false → (∀ e ∈ oj.after, Region.binds md e = true → e.on ≠ i) → oi.apart ops oj = true) →
      i ∈ Region.ready md ops listed → YieldsIf P ops S oi v a → S w →
      wpAnyL P md ops Q S L fuel (listed.setIfInBounds i true) (a.put oi.dst v) w → wpAnyL P md ops Q S L (fuel + 1) listed a w := by
  intro fuel
  induction fuel with
  | zero =>
    intro listed a w _ _ hr hy hS H
    refine ⟨fun h => (by rw [h] at hr; cases hr), fun j hj => ?_⟩
    by_cases hji : j = i
    · subst hji; exact hy.wpOp hi hS ⟨.inr hS, H⟩
    · have := ready_mono hj hji
      rw [H.1] at this
      cases this
  | succ fuel ih =>
    intro listed a w hsh hfree hr hy hS H
    refine ⟨fun h => (by rw [h] at hr; cases hr), fun j hj => ?_⟩
    by_cases hji : j = i
    · subst hji; exact hy.wpOp hi hS ⟨.inr hS, H⟩
    · have h1 := H.2 j (ready_mono hj hji)
      obtain ⟨hjun, oj, hoj, hall⟩ := mem_ready.1 hj
      have hi0 : listed.getD i false = false := by
        have h0 := (mem_ready.1 hr).1
        rcases Nat.lt_or_ge i listed.size with h' | h'
        · simpa [h'] using h0
        · simp [Array.getElem?_eq_none h']
      have hjL : j ≠ L := fun e => by
        subst e
        exact leads_on hsh hi0 n j hld oj hoj hall
      have hnot : ∀ e ∈ oj.after, Region.binds md e = true → e.on ≠ i := fun e he hb heq => by
        have h1 := hall e he hb
        rw [heq, hi0] at h1
        cases h1
      have h2 := wpOp_putIf hoj (hfree j oj hoj hji hjun hnot) (fun cs b => hsel i oi cs b hi) (fun cs b => hsel j oj cs b hoj) hQ hy h1
      have hfree' : ∀ k ok, ops[k]? = some ok → k ≠ i → (listed.setIfInBounds j true).getD k true = false →
          (∀ e ∈ ok.after, Region.binds md e = true → e.on ≠ i) → oi.apart ops ok = true := fun k ok hk hki hun hno => by
        refine hfree k ok hk hki ?_ hno
        by_cases hjk : j = k
        · subst hjk; exact hjun
        · rw [getD_set_ne true hjk] at hun; exact hun
      refine wpOp_mono (fun a' w' h3 => ⟨h3.2.1, ih (listed.setIfInBounds j true) a' w' (hsh.step hj) hfree' (ready_mono hr (Ne.symm hji)) h3.1 (h3.2.1.resolve_left hjL) ?_⟩) h2
      rw [Array.setIfInBounds_comm _ _ hji]
      exact h3.2.2

theorem wpAnyL_take {i : Nat} {oi : Oper} {v : Value} {fuel : Nat} {listed : Array Bool} {a : Act} {w : World} (hi : ops[i]? = some oi)
    (hs : Region.noSelect ops = true) (hf : Region.free md ops listed i = true) (hr : (Region.ready md ops listed).contains i = true) (hld : leads md ops i 40 L = true) (hsh : shutB md ops listed = true)
    (hQ : ∀ c a w, Q (.panic c) (a.put oi.dst v) w → Q (.panic c) a w) (hy : YieldsIf P ops S oi v a) (hS : S w)
    (h : wpAnyL P md ops Q S L fuel (listed.setIfInBounds i true) (a.put oi.dst v) w) : wpAnyL P md ops Q S L (fuel + 1) listed a w :=
  wpAnyL_first hi (Region.noSelect_spec hs) hQ hld fuel listed a w (shutL_of hsh) (Region.free_spec hi hf) (by simpa using hr) hy hS h

/-- A pure operation is taken (short words). -/
theorem tlp (i : Nat) (v : Value) {oi : Oper} {fuel : Nat} {listed : Array Bool} {a : Act} {w : World} (hS : S w) (h : wpAnyL P md ops Q S L fuel (listed.setIfInBounds i true) (a.put oi.dst v) w)
    (hi : ops[i]? = some oi := by rfl) (hs : Region.noSelect ops = true := by kernel_rfl) (hf : Region.free md ops listed i = true := by kernel_rfl) (hr : (Region.ready md ops listed).contains i = true := by kernel_rfl) (hld : leads md ops i 40 L = true := by kernel_rfl) (hsh : shutB md ops listed = true := by kernel_rfl)
    (hQ : ∀ c a w, Q (.panic c) (a.put oi.dst v) w → Q (.panic c) a w := by exact fun _ _ _ h => h) (hy : YieldsIf P ops S oi v a := by exact Or.inl ⟨by rfl, fun w hS => by go_simp⟩) : wpAnyL P md ops Q S L (fuel + 1) listed a w := wpAnyL_take hi hs hf hr hld hsh hQ hy hS h
/-- Any other is taken (short words). -/
theorem tlg (i : Nat) (v : Value) {oi : Oper} {fuel : Nat} {listed : Array Bool} {a : Act} {w : World} (hi : ops[i]? = some oi) (hy : YieldsIf P ops S oi v a) (hS : S w) (h : wpAnyL P md ops Q S L fuel (listed.setIfInBounds i true) (a.put oi.dst v) w)
    (hs : Region.noSelect ops = true := by kernel_rfl) (hf : Region.free md ops listed i = true := by kernel_rfl) (hr : (Region.ready md ops listed).contains i = true := by kernel_rfl) (hld : leads md ops i 40 L = true := by kernel_rfl) (hsh : shutB md ops listed = true := by kernel_rfl)
    (hQ : ∀ c a w, Q (.panic c) (a.put oi.dst v) w → Q (.panic c) a w := by exact fun _ _ _ h => h) : wpAnyL P md ops Q S L (fuel + 1) listed a w := wpAnyL_take hi hs hf hr hld hsh hQ hy hS h

def AllReadyL (P : Program) (md : Region.Mode) (ops : Array Oper) (Q : Exit → Act → World → Prop) (S : World → Prop) (L : Nat) (fuel : Nat) (listed : Array Bool) (a : Act) (w : World) (rs : List Nat) : Prop :=
  ∀ i ∈ rs, wpOp P ops Q i (fun a' w' => (i = L ∨ S w') ∧ wpAnyL P md ops Q S L fuel (listed.setIfInBounds i true) a' w') a w
theorem AllReadyL.nil {fuel : Nat} {listed : Array Bool} {a : Act} {w : World} : AllReadyL P md ops Q S L fuel listed a w [] := fun _ h => by cases h
theorem AllReadyL.cons {fuel : Nat} {listed : Array Bool} {a : Act} {w : World} {i : Nat} {o : Oper} {rs : List Nat} (ho : ops[i]? = some o)
    (h : ∀ K' : Act → World → Prop, Shut (∀ a w, (i = L ∨ S w) → (S w → wpAnyL P md ops Q S L fuel (listed.setIfInBounds i true) a w) → (i = L → wpAnyL P md ops Q S L fuel (listed.setIfInBounds i true) a w) → K' a w) → if Region.wanted o (yielded ops a.tmps) = true then Oper.wp P o a w K' Q else K' (a.put o.dst undef) w)
    (hs : AllReadyL P md ops Q S L fuel listed a w rs) : AllReadyL P md ops Q S L fuel listed a w (i :: rs) := fun j hj => by
  rcases List.mem_cons.1 hj with rfl | hj
  · exact wpOp_step ho (fun K' hK => h K' (fun a w hS hW hL => hK a w ⟨hS, hS.elim hL hW⟩))
  · exact hs j hj

theorem wpAnyL_ready {rs : List Nat} {fuel : Nat} {listed : Array Bool} {a : Act} {w : World} (hr : Region.ready md ops listed = rs) (hne : rs ≠ [])
    (h : AllReadyL P md ops Q S L fuel listed a w rs) : wpAnyL P md ops Q S L (fuel + 1) listed a w := ⟨fun h0 => absurd (hr ▸ h0) hne, hr ▸ h⟩

/-- One that is not the last: S is shown behind it. -/
theorem wpAnyL_one {fuel : Nat} {listed : Array Bool} {a : Act} {w : World} {i : Nat} {o : Oper} (ho : ops[i]? = some o) (hr : Region.ready md ops listed = [i])
    (h : ∀ K' : Act → World → Prop, Shut (∀ a w, S w → (S w → wpAnyL P md ops Q S L fuel (listed.setIfInBounds i true) a w) → K' a w) → if Region.wanted o (yielded ops a.tmps) = true then Oper.wp P o a w K' Q else K' (a.put o.dst undef) w) :
    wpAnyL P md ops Q S L (fuel + 1) listed a w :=
  wpAnyL_ready hr (by simp) (AllReadyL.cons ho (fun K' hK => h K' (fun a w hS hW => hK.out a w (.inr hS) hW (fun _ => hW hS))) AllReadyL.nil)

/-- The last one. -/
theorem wpAnyL_last {fuel : Nat} {listed : Array Bool} {a : Act} {w : World} {o : Oper} (ho : ops[L]? = some o) (hr : Region.ready md ops listed = [L]) (he : Region.ready md ops (listed.setIfInBounds L true) = [])
    (h : ∀ K' : Act → World → Prop, Shut (∀ a w, Q .normal a w → K' a w) → if Region.wanted o (yielded ops a.tmps) = true then Oper.wp P o a w K' Q else K' (a.put o.dst undef) w) :
    wpAnyL P md ops Q S L (fuel + 1) listed a w :=
  wpAnyL_ready hr (by simp) (AllReadyL.cons ho (fun K' hK => h K' (fun a w hQ => by
    have hd : wpAnyL P md ops Q S L fuel (listed.setIfInBounds L true) a w := by
      cases fuel with
      | zero => exact ⟨he, hQ⟩
      | succ n => exact ⟨fun _ => hQ, by rw [he]; simp⟩
    exact hK.out a w (.inl rfl) (fun _ => hd) (fun _ => hd))) AllReadyL.nil)

theorem wp_region_last {id : Nat} {a : Act} {w : World} (L : Nat) (hm : P.follows .mixedOrders = true) (hS : S w.drew)
    (h : S w.drew → wpAnyL P .any ops Q S L ops.size (Array.replicate ops.size false) a w.drew) : (Code.region id ops true).wp P Q a w :=
  wp_region_any hm (wpAny_of_last _ _ _ _ (h hS))

end
end Go.Proofs.YtpihigcnoifcfaaGreatDoor

/- Proofs in memory: laws for their loads, stores and literals; node.join, as a contract. -/
namespace Go.Proofs.YtpihigcnoifcfaaGreatDoor
set_option maxRecDepth 20000
open Go.RowKit

theorem hash_sz (D : List Int) (h : D.length = 32) : (Tryz.prog.info? 25).map (·.size) = some (B D).size ∧ (B (List.replicate 32 0)).size = (B D).size := ⟨by rw [B_size, h]; exact sz_hash, by rw [B_size, B_size, h]; rfl⟩
theorem hash_ln (D : List Int) (h : D.length = 32) : (Tryz.prog.info? 25).map (·.size) = some (B D).toList.length := by rw [B_toList, List.length_map, h]; exact sz_hash
theorem path_ln (D : List Int) (h : D.length = 32) : (Tryz.prog.info? 24).map (·.size) = some (B D).toList.length := by rw [B_toList, List.length_map, h]; exact sz_path

theorem zero_proof : ∀ w, (zeroValue 35).run Tryz.prog w = .ok (.agg (encR (.slice none 0 0) (List.replicate 129 0)).toArray) w := zero_of_info (n := 130) (by kernel_rfl) |>.1

theorem built_proof0 : Tryz.prog.built 35 [] = some (encR (.slice none 0 0) (nd 0 z32 z32 z32 z32)).toArray := by kernel_rfl

def pfPlaces : Nat → Option (Nat × Nat) := fun i => (#[(0, 1), (1, 129)] : Array (Nat × Nat))[i]?

theorem built_pfEq (ps : List (Nat × Value)) : Tryz.prog.built 35 ps = Instr.fill pfPlaces (encR (.slice none 0 0) (List.replicate 129 0)).toArray ps := by kernel_rfl

theorem built_proof (a : Option Addr) (n c : Nat) (z : List Int) (hz : z.length = 129) : Tryz.prog.built 35 [(0, .slice a n c), (1, .agg (B z))] = some (encR (.slice a n c) z).toArray := by
  rw [built_pfEq]
  rw [fill_one pfPlaces 0 0 1 (.slice a n c) [.slice a n c] (encR (.slice none 0 0) (List.replicate 129 0)) _ rfl rfl rfl (by simp [encR])]
  rw [fill_one pfPlaces 1 1 129 (.agg (B z)) (z.map (Value.int .u8)) _ _ rfl (cells_b z) (by simp [hz]) (by simp [encR])]
  simp [encR, Instr.fill]

theorem encR_one (a : Option Addr) (n c : Nat) (z : List Int) : (encR (.slice a n c) z).toArray.all (·.oneCell') = true := Array.all_eq_true_iff_forall_mem.2 (fun v hv => by
  simp only [encR, List.mem_toArray, List.mem_cons, List.mem_map] at hv
  rcases hv with rfl | ⟨z, _, rfl⟩ <;> rfl)

theorem encR_sz (s : Value) (z : List Int) (hz : z.length = 129) : (Tryz.prog.info? 35).map (·.size) = some (encR s z).toArray.size := by rw [List.size_toArray, encR_length s z hz]; exact size_proof

/-- Another list of sides. -/
theorem blk_side {w : World} {g : Nat} {t : TypeId} {s : Value} {z : List Int} (h : Blk w g t (encR s z).toArray) (s' : Value) : Blk (w.setCell ⟨g, 0, none⟩ s') g t (encR s' z).toArray := by
  have := h.set 0 s'
  simpa [encR] using this
/-- Another end. -/
theorem blk_end {w : World} {g : Nat} {t : TypeId} {s : Value} {z : List Int} (h : Blk w g t (encR s z).toArray) (z' : List Int) (hz : z.length = 129) (hz' : z'.length = 129) : Blk (w.setCells g 1 (z'.map (Value.int .u8))) g t (encR s z').toArray := by
  have h1 := Blk.cells (z'.map (Value.int .u8)) 1 h (by simp [encR, hz, hz'])
  have e : ((encR s z).toArray.toList.take 1 ++ (z'.map (Value.int .u8) ++ (encR s z).toArray.toList.drop (1 + (z'.map (Value.int .u8)).length))).toArray = (encR s z').toArray := by
    simp [encR, hz, hz']
  rw [e] at h1
  exact h1
theorem proof_kind {w : World} {g : Nat} {t : TypeId} {s : Value} {k : Int} {a b c d : List Int} (h : Blk w g t (encR s (nd k a b c d)).toArray) : w.cell? ⟨g, 1, none⟩ = some (.int .u8 k) := by
  rw [h.cell]
  simp [encR, nd]

/-- The digest of an inner node, mine on the side of bit. -/
def jnD (bit : Int) (x y : List Int) : List Int := if bit = 1 then inD y x else inD x y
theorem jnD_length (bit : Int) (x y : List Int) : (jnD bit x y).length = 32 := by unfold jnD; split <;> exact dig_length _
theorem jnD_bytes (bit : Int) (x y : List Int) : Bytes (jnD bit x y) := by unfold jnD; split <;> exact dig_bytes _

set_option maxHeartbeats 2000000 in
theorem njoin_any (bit : Int) (x y : List Int) (w : World) (hx : x.length = 32) (hy : y.length = 32) (bx : Bytes x) (by' : Bytes y) (hL : Laid w) :
    Calls Tryz.prog 72 #[.int .i64 bit, .agg (B x), .agg (B y)] w fun e w' => e = .returned (.agg (B (jnD bit x y))) ∧ Below w.heap.size w w' := by
  have HL := hidden hL
  have HI1 : Hid (∀ w', Laid w' → Calls Tryz.prog 40 #[.agg (B y), .agg (B x)] w' fun e w'' => e = .returned (.agg (B (inD y x))) ∧ Below w'.heap.size w' w'') := fun w' hl => inner_any y x w' hy hx by' bx hl
  have HI0 : Hid (∀ w', Laid w' → Calls Tryz.prog 40 #[.agg (B x), .agg (B y)] w' fun e w'' => e = .returned (.agg (B (inD x y))) ∧ Below w'.heap.size w' w'') := fun w' hl => inner_any x y w' hx hy bx by' hl
  have HX := hidden (hash_sz x hx)
  have HY := hidden (hash_sz y hy)
  have HF := hidden (hash_sz (jnD bit x y) (jnD_length _ _ _))
  by_cases hb : bit = 1
  · have hj : inD y x = jnD bit x y := by rw [jnD, if_pos hb]
    rw [hj] at HI1
    have q1 : (bit == 1) = true := by simp [hb]
    obtain ⟨D, hD⟩ : ∃ D, D = jnD bit x y := ⟨_, rfl⟩
    rw [← hD] at HI1 HF ⊢
    clear hL hb hj hD HI0
    go_enter Tryz.func72, Tryz.ntmps72
    go_wp2_with (first
      | ((with_reducible refine at_bxd 4 ?_); refine wpList_bx _ rfl _ _ rfl _ rfl ?_; intro w1 g4 hg4 hl4 B4 b1)
      | ((with_reducible refine at_bxd 5 ?_); refine wpList_bx _ rfl _ _ rfl _ rfl ?_; intro w2 g5 hg5 hl5 B5 b2; have c2 := grow_trans b1 b2; have D4 := B4.grow b2)
      | ((with_reducible refine at_ald 6 ?_); refine wpList_al _ rfl _ rfl _ zero_hash ?_; intro w3 g6 hg6 hl6 B6 b3; have c3 := grow_trans c2 b3; have E4 := D4.grow b3; have E5 := B5.grow b3)
      | ((with_reducible refine at_ldd 9 5 ?_); refine wpList_ld _ rfl _ _ rfl g5 _ rfl E5 _ _ Tryz.underlying25 HY.out.1 ?_)
      | ((with_reducible refine at_ldd 10 4 ?_); refine wpList_ld _ rfl _ _ rfl g4 _ rfl E4 _ _ Tryz.underlying25 HX.out.1 ?_)
      | (go_at_call 40; refine (HI1.out _ (HL.out.grow c3)).mono ?_; rintro e w4 ⟨rfl, b4⟩; have F6 := B6.grow b4; have c4 := grow_trans c3 b4)
      | ((with_reducible refine at_st 6 ?_); refine wpList_sto _ rfl _ _ _ rfl g6 _ (B D) rfl rfl F6 HF.out.1 HF.out.2 (B_one _) ?_; intro w5 B7 r5))
    exact bodyPost_ret (v := .agg (B D)) (results_cell_row rfl _ _ g6 _ _ _ _ rfl B7 Tryz.underlying25 rfl HF.out.1) rfl ⟨rfl, below_row c4 r5 (Nat.le_trans c2.size hg6)⟩
  · have hj : inD x y = jnD bit x y := by rw [jnD, if_neg hb]
    rw [hj] at HI0
    have q1 : (bit == 1) = false := by simp [hb]
    obtain ⟨D, hD⟩ : ∃ D, D = jnD bit x y := ⟨_, rfl⟩
    rw [← hD] at HI0 HF ⊢
    clear hL hb hj hD HI1
    go_enter Tryz.func72, Tryz.ntmps72
    go_wp2_with (first
      | ((with_reducible refine at_bxd 4 ?_); refine wpList_bx _ rfl _ _ rfl _ rfl ?_; intro w1 g4 hg4 hl4 B4 b1)
      | ((with_reducible refine at_bxd 5 ?_); refine wpList_bx _ rfl _ _ rfl _ rfl ?_; intro w2 g5 hg5 hl5 B5 b2; have c2 := grow_trans b1 b2; have D4 := B4.grow b2)
      | ((with_reducible refine at_ald 6 ?_); refine wpList_al _ rfl _ rfl _ zero_hash ?_; intro w3 g6 hg6 hl6 B6 b3; have c3 := grow_trans c2 b3; have E4 := D4.grow b3; have E5 := B5.grow b3)
      | ((with_reducible refine at_ldd 13 5 ?_); refine wpList_ld _ rfl _ _ rfl g5 _ rfl E5 _ _ Tryz.underlying25 HY.out.1 ?_)
      | ((with_reducible refine at_ldd 12 4 ?_); refine wpList_ld _ rfl _ _ rfl g4 _ rfl E4 _ _ Tryz.underlying25 HX.out.1 ?_)
      | (go_at_call 40; refine (HI0.out _ (HL.out.grow c3)).mono ?_; rintro e w4 ⟨rfl, b4⟩; have F6 := B6.grow b4; have c4 := grow_trans c3 b4)
      | ((with_reducible refine at_st 6 ?_); refine wpList_sto _ rfl _ _ _ rfl g6 _ (B D) rfl rfl F6 HF.out.1 HF.out.2 (B_one _) ?_; intro w5 B7 r5))
    exact bodyPost_ret (v := .agg (B D)) (results_cell_row rfl _ _ g6 _ _ _ _ rfl B7 Tryz.underlying25 rfl HF.out.1) rfl ⟨rfl, below_row c4 r5 (Nat.le_trans c2.size hg6)⟩

end Go.Proofs.YtpihigcnoifcfaaGreatDoor
