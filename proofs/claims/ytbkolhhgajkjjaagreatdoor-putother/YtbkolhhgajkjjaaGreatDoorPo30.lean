/- What stands in every world that differs in some blocks alone; rows of any kind that are the call's own. -/
import Derived.Test.YtbkolhhgajkjjaaGreatDoorPo29
namespace Go.Proofs.YtbkolhhgajkjjaaGreatDoor
set_option maxHeartbeats 4000000
set_option maxRecDepth 20000
open Go.RowKit
def Kq (S : List Nat) (w : World) (P : World → Prop) : Prop := ∀ w', Mod S w w' → P w'
theorem Kq.now {S : List Nat} {w : World} {P : World → Prop} (h : Kq S w P) : P w := h w (Mod.refl _ _)
theorem Kq.turn {S S1 : List Nat} {w w1 : World} {P : World → Prop} (h : Kq S w P) (m : Mod S w w1) (n : New S w S1) : Kq S1 w1 P := fun w' m' => h w' (m.trans n m')
theorem Kq.step {S : List Nat} {w w1 : World} {P : World → Prop} (h : Kq S w P) (m : Mod S w w1) : Kq S w1 P := h.turn m (New.refl _ _)
theorem Kq.grow {S : List Nat} {w w1 : World} {P : World → Prop} (h : Kq S w P) (b : Below w.heap.size w w1) : Kq S w1 P := h.step (Mod.of_below b S)
theorem Kq.imp {S : List Nat} {w : World} {P Q : World → Prop} (h : Kq S w P) (q : ∀ w', Mod S w w' → P w' → Q w') : Kq S w Q := fun w' m => q w' m (h w' m)
theorem Kq.blk {S : List Nat} {w : World} {g : Nat} {t : TypeId} {cs : Array Value} (h : Blk w g t cs) (hn : g ∉ S) : Kq S w (fun w' => Blk w' g t cs) := fun _ m => h.mod m hn
theorem Kq.of_low {S : List Nat} {w0 w : World} {P : World → Prop} (h : ∀ w', Below w0.heap.size w0 w' → P w') (hb : Below w0.heap.size w0 w) (hS : ∀ k ∈ S, w0.heap.size ≤ k) : Kq S w P := fun w' m => h w' (hb.trans (m.below hS hb.size))
theorem Zfj {w w' : World} {base : Nat} {e : TypeId} {k : Nat} {v : Value} {n : Nat} {xs : List Value} {S : List Nat} (h : w.ownsRow base e k v n xs) (m : Mod S w w') (hn : ∀ g, v.ownBlock = some g → g ∉ S) : w'.ownsRow base e k v n xs := by
 refine ⟨h.1, ?_⟩
 rcases h.2 with hh | ⟨g, cap, cur, rfl, hb, hgg, rest⟩
 ·exact .inl hh
 ·exact .inr ⟨g, cap, cur, rfl, hb, (m.block g (Array.getElem?_eq_some_iff.1 hgg).1 (hn g rfl)).trans hgg, rest⟩
theorem Zp {w w' : World} {base : Nat} {e : TypeId} {k : Nat} {v : Value} {n : Nat} {xs : List Value} (h : w.ownsRow base e k v n xs) (hb : Below w.heap.size w w') : w'.ownsRow base e k v n xs := Zfj h (Mod.of_below hb []) (fun _ _ h => by cases h)
theorem Zax {w : World} {base base' : Nat} {e : TypeId} {k : Nat} {v : Value} {n : Nat} {xs : List Value} (h : w.ownsRow base e k v n xs) (hb : base' ≤ base) : w.ownsRow base' e k v n xs := by
 refine ⟨h.1, h.2.imp id ?_⟩
 rintro ⟨g, cap, cur, e1, e2, e3⟩
 exact ⟨g, cap, cur, e1, Nat.le_trans hb e2, e3⟩
theorem Zbe {w : World} {base : Nat} {e : TypeId} {k : Nat} {v : Value} {n : Nat} {xs : List Value} (h : w.ownsRow base e k v n xs) : Lst w e k v n xs := ⟨h.1, h.2.imp id (fun ⟨g, cap, cur, a1, _, a3⟩ => ⟨g, cap, cur, a1, Nat.zero_le _, a3⟩)⟩
theorem Zar {w0 w w' : World} {base : Nat} {e : TypeId} {k : Nat} {v : Value} {n : Nat} {xs : List Value} (hb : Below w0.heap.size w0 w) (h : w.ownsRow base e k v n xs) (hl : w0.heap.size ≤ base) (hg : w.grownBy w' v.ownBlock) : Below w0.heap.size w0 w' := by
 have m : Mod v.ownBlock.toList w w' := Mod.of_grown hg (fun k hk => by simp [hk])
 refine hb.trans (m.below (fun k hk => ?_) hb.size)
 have := (h.lt k (by simpa using hk)).1
 omega
def sp7Places : Nat → Option (Nat × Nat) := fun i => (#[(0, 1), (1, 1), (2, 33), (35, 1), (36, 1), (37, 1), (38, 1)] : Array (Nat × Nat))[i]?
theorem Zki (ps : List (Nat × Value)) : Tryz.prog.built 116 ps = Instr.fill sp7Places (sz7 zs7).toArray ps := by kernel_rfl
theorem Zeq (i off n : Nat) (v : Value) (p q r xs : List Value) (rest : List (Nat × Value)) (hi : sp7Places i = some (off, n)) (hv : v.cells = xs.toArray) (hx : xs.length = n) (hp : p.length = off) (hq : q.length = n) : Instr.fill sp7Places (p ++ (q ++ r)).toArray ((i, v) :: rest) = Instr.fill sp7Places (p ++ (xs ++ r)).toArray rest := by
 rw [Zbk sp7Places i off n v xs _ rest hi hv hx (by simp; omega), ← hp, List.take_left' rfl, List.append_assoc, show p.length + n = (p ++ q).length by simp [hq], ← List.append_assoc p q r, List.drop_left' rfl]
theorem Zud (s : Sp) (k : Int) (rest : List (Nat × Value)) : Instr.fill sp7Places (sz7 s).toArray ((0, .int .u8 k) :: rest) = Instr.fill sp7Places (sz7 { s with kind := k }).toArray rest := by
 have := Zeq 0 0 1 (.int .u8 k) [] [.int .u8 s.kind] (.int .i64 (s.d : Int) :: (encP s.key s.val ++ [.int .i64 (s.l : Int), .int .i64 (s.r : Int), .int .i64 (s.own : Int), .int .i64 (s.sd : Int)])) [.int .u8 k] rest rfl rfl rfl rfl rfl
 simpa [sz7] using this
theorem Yii (s : Sp) (n : Nat) (rest : List (Nat × Value)) : Instr.fill sp7Places (sz7 s).toArray ((1, .int .i64 (n : Int)) :: rest) = Instr.fill sp7Places (sz7 { s with d := n }).toArray rest := by
 have := Zeq 1 1 1 (.int .i64 (n : Int)) [.int .u8 s.kind] [.int .i64 (s.d : Int)] (encP s.key s.val ++ [.int .i64 (s.l : Int), .int .i64 (s.r : Int), .int .i64 (s.own : Int), .int .i64 (s.sd : Int)]) [.int .i64 (n : Int)] rest rfl rfl rfl rfl rfl
 simpa [sz7] using this
theorem Zyu (s : Sp) (hs : s.key.length = 32) (K : List Int) (hK : K.length = 32) (v : Value) (bs : List Int) (rest : List (Nat × Value)) : Instr.fill sp7Places (sz7 s).toArray ((2, .agg (encP K v).toArray) :: rest) = Instr.fill sp7Places (sz7 { s with key := K, val := v, bs := bs }).toArray rest := by
 have := Zeq 2 2 33 (.agg (encP K v).toArray) [.int .u8 s.kind, .int .i64 (s.d : Int)] (encP s.key s.val) [.int .i64 (s.l : Int), .int .i64 (s.r : Int), .int .i64 (s.own : Int), .int .i64 (s.sd : Int)] (encP K v) rest rfl rfl (Zab K v hK) rfl (Zab _ _ hs)
 simpa [sz7] using this
theorem Yih (s : Sp) (hs : s.key.length = 32) (n : Nat) (rest : List (Nat × Value)) : Instr.fill sp7Places (sz7 s).toArray ((3, .int .i64 (n : Int)) :: rest) = Instr.fill sp7Places (sz7 { s with l := n }).toArray rest := by
 have := Zeq 3 35 1 (.int .i64 (n : Int)) ([Value.int .u8 s.kind, .int .i64 (s.d : Int)] ++ encP s.key s.val) [.int .i64 (s.l : Int)] [.int .i64 (s.r : Int), .int .i64 (s.own : Int), .int .i64 (s.sd : Int)] [.int .i64 (n : Int)] rest rfl rfl rfl (by simp [Zab _ _ hs]) rfl
 simpa [sz7] using this
theorem Yig (s : Sp) (hs : s.key.length = 32) (n : Nat) (rest : List (Nat × Value)) : Instr.fill sp7Places (sz7 s).toArray ((4, .int .i64 (n : Int)) :: rest) = Instr.fill sp7Places (sz7 { s with r := n }).toArray rest := by
 have := Zeq 4 36 1 (.int .i64 (n : Int)) ([Value.int .u8 s.kind, .int .i64 (s.d : Int)] ++ (encP s.key s.val ++ [.int .i64 (s.l : Int)])) [.int .i64 (s.r : Int)] [.int .i64 (s.own : Int), .int .i64 (s.sd : Int)] [.int .i64 (n : Int)] rest rfl rfl rfl (by simp [Zab _ _ hs]) rfl
 simpa [sz7] using this
def lf7 (K : List Int) (v : Value) (bs : List Int) : Sp := ⟨1, 0, K, v, bs, 0, 0, 0, 0⟩
def in7 (d l r : Nat) : Sp := ⟨2, d, z32, .slice none 0 0, [], l, r, 0, 0⟩
theorem Zxk (K : List Int) (a : Option Addr) (n c : Nat) (bs : List Int) (hK : K.length = 32) : Tryz.prog.built 116 [(0, .int .u8 1), (2, .agg (encP K (.slice a n c)).toArray)] = some (sz7 (lf7 K (.slice a n c) bs)).toArray := by
 rw [Zki]
 exact (Zud zs7 1 _).trans (Zyu ⟨1, 0, z32, .slice none 0 0, [], 0, 0, 0, 0⟩ rfl K hK (.slice a n c) bs [])
theorem Zxl (d l r : Nat) : Tryz.prog.built 116 [(0, .int .u8 2), (1, .int .i64 (d : Int)), (3, .int .i64 (l : Int)), (4, .int .i64 (r : Int))] = some (sz7 (in7 d l r)).toArray := by
 rw [Zki]
 exact (Zud zs7 2 _).trans ((Yii ⟨2, 0, z32, .slice none 0 0, [], 0, 0, 0, 0⟩ d _).trans ((Yih ⟨2, d, z32, .slice none 0 0, [], 0, 0, 0, 0⟩ rfl l _).trans (Yig ⟨2, d, z32, .slice none 0 0, [], l, 0, 0, 0⟩ rfl r [])))
def p7xPlaces : Nat → Option (Nat × Nat) := fun i => (#[(0, 32), (32, 1)] : Array (Nat × Nat))[i]?
theorem Zsy (ps : List (Nat × Value)) : Tryz.prog.built 114 ps = Instr.fill p7xPlaces (encP z32 (.slice none 0 0)).toArray ps := by kernel_rfl
theorem Zxj (K : List Int) (a : Option Addr) (n c : Nat) (hk : K.length = 32) : Tryz.prog.built 114 [(0, .agg (B K)), (1, .slice a n c)] = some (encP K (.slice a n c)).toArray := by
 rw [Zsy]
 rw [Zbk p7xPlaces 0 0 32 (.agg (B K)) (K.map (Value.int .u8)) (encP z32 (.slice none 0 0)) _ rfl (Zfm K) (by simp [hk]) (by simp [encP, Zgf])]
 have e1 : (encP z32 (.slice none 0 0)).take 0 ++ (K.map (Value.int .u8) ++ (encP z32 (.slice none 0 0)).drop (0 + 32)) = K.map (Value.int .u8) ++ [.slice none 0 0] := by simp [encP, z32]
 first
  | rw [e1]
  | skip
 rw [Zbk p7xPlaces 1 32 1 (.slice a n c) [.slice a n c] _ _ rfl rfl rfl (by simp [hk, encP, Zgf])]
 simp [encP, Instr.fill, hk, z32]
theorem Yfz {K : List Int} (hK : Key K) (a : Option Addr) (c : Nat) (bs : List Int) : SpOk (lf7 K (.slice a bs.length c) bs) := ⟨hK, a, c, rfl⟩
theorem Yge (d l r : Nat) : SpOk (in7 d l r) := ⟨Zrk.hk, none, 0, rfl⟩
theorem Zkk {w0 w w' : World} (hb : Below w0.heap.size w0 w) (hg : w.grownBy w' none) : Below w0.heap.size w0 w' :=
 hb.trans ⟨hg.os, hg.tape, hg.output, hg.size, fun k hk => hg.block k (Nat.lt_of_lt_of_le hk hb.size) (by simp)⟩
theorem Zxg (room : Nat) : Tryz.prog.built 70 [(0, .bool true), (1, .int .i64 (room : Int))] = some #[.bool true, .int .i64 (room : Int), .slice none 0 0, .slice none 0 0] := by kernel_rfl
theorem Zzf (room : Nat) (w : World) (h1 : 1 ≤ room) (h2 : room ≤ 65536) : Calls Tryz.prog 9 #[.int .i64 (room : Int)] w fun e w' => ∃ g, e = .returned (.tuple #[.pointer (some ⟨g, 0, none⟩), .int .i64 0]) ∧ w.heap.size ≤ g ∧ Rs w' g (.slice none 0 0) (.slice none 0 0) room [] [] ∧ Below w.heap.size w w' := by
 have z1 : ¬ (room : Int) < 1 := by omega
 have z2 : ¬ (65536 : Int) < (room : Int) := by omega
 have HB := Za (Zxg room)
 have HP : Hid (∀ w' g, w.heap.size ≤ g → Blk w' g 70 #[.bool true, .int .i64 (room : Int), .slice none 0 0, .slice none 0 0] → Below w.heap.size w w' → ∃ g', (Ending.returned (.tuple #[.pointer (some ⟨g, 0, none⟩), .int .i64 0])) = .returned (.tuple #[.pointer (some ⟨g', 0, none⟩), .int .i64 0]) ∧ w.heap.size ≤ g' ∧ Rs w' g' (.slice none 0 0) (.slice none 0 0) room [] [] ∧ Below w.heap.size w w') := fun w' g hg B b => ⟨g, rfl, hg, ⟨B, ⟨rfl, .inl ⟨rfl, rfl⟩⟩, ⟨rfl, .inl ⟨rfl, rfl⟩⟩, fun s hs => (by cases hs), fun s hs => (by cases hs), fun s hs => (by cases hs), ⟨by simp, by simp⟩⟩, b⟩
 clear h1 h2
 go_enter Tryz.func9, Tryz.ntmps9
 go_wp2_with (first
  | ((with_reducible refine Zxs ?_); refine Zam _ rfl _ _ rfl _ (by rw [List.map_toArray]; exact HB.out) ?_)
  | ((with_reducible refine Zo 12 ?_); refine Zc _ rfl _ _ rfl _ rfl ?_; intro w1 g12 hg12 hl12 B12 q12))
 go_ret2
 exact HP.out _ _ hg12 B12 q12
theorem Zuy {w : World} {g : Nat} {vp vf : Value} {room : Nat} {ss : List Sp} {fr : List Nat} (h : Rs w g vp vf room ss fr) (hfr : ∀ s ∈ fr, 1 ≤ s ∧ s ≤ ss.length) (K : List Int) (v : Value) (bs : List Int) (hr : Reads w v bs) (hK : Key K) (hn : bs.length ≤ 1024) (hf : ¬ Full room ss fr) (h6 : ss.length + 1 ≤ 65536) : Calls Tryz.prog 24 #[.pointer (some ⟨g, 0, none⟩), .agg (B K), v] w fun e w' => ∃ a c, e = .returned (.tuple #[.int .i64 (tkH ss fr : Int), .int .i64 0]) ∧ RT7 w g (rsB g vp vf ss) room (tkC ss fr (own1 (lf7 K (.slice a bs.length c) bs))) fr.dropLast w' := by
 have HC : Hid (∀ w', Below w.heap.size w w' → w'.cell? ⟨g, 0, none⟩ = some (.bool true)) := fun w' hb => (h.grow hb).c0
 have HFU : Hid (∀ w', Below w.heap.size w w' → Calls Tryz.prog 68 #[.pointer (some ⟨g, 0, none⟩)] w' fun e w'' => e = .returned (.bool false) ∧ Below w'.heap.size w' w'') := fun w' hb => Zjv (h.grow hb) false (by simp [hf])
 have HTK : Hid (∀ w' v' sp, Below w.heap.size w w' → Own w.heap.size w' v' bs sp → Calls Tryz.prog 69 #[.pointer (some ⟨g, 0, none⟩), .agg (sz7 (lf7 K v' bs)).toArray] w' fun e w'' => e = .returned (.int .i64 (tkH ss fr : Int)) ∧ RT7 w g (rsB g vp vf ss) room (tkC ss fr (own1 (lf7 K v' bs))) fr.dropLast w'' ∧ Mod (rsB g vp vf ss) w' w'') := fun w' v' sp hb ho => by
  obtain ⟨a, c, rfl⟩ := ho.slice
  exact Zjt hb (h.grow hb) hfr _ (Yfz hK a c bs) (by show ¬ (1 : Int) = 0; omega) ⟨sp, ho.mono (Nat.zero_le _)⟩ (fun k hk => (ho.lt k hk).1) h6
 have HRD : Hid (∀ w', Below w.heap.size w w' → Reads w' v bs) := fun w' hb => hr.grow hb
 have HLT := Za h.lts
 have HKL := Za hK.1
 have HPL : Hid ((Tryz.prog.info? 31).map (·.size) = some (B K).toList.length) := by show _ = _; rw [Zap, List.length_map, hK.1]; exact Zk
 have HLN := Za hn
 obtain ⟨va, vc, rfl, _⟩ := hr
 obtain ⟨vn, hvn⟩ : ∃ n, n = bs.length := ⟨_, rfl⟩
 rw [← hvn] at HRD
 rw [← hvn]
 have z1 : ¬ (1024 : Int) < (vn : Int) := by omega
 generalize (tkH ss fr : Int) = th at HTK ⊢
 have HVN := Za hvn
 clear h hfr hK hn hf h6 hvn
 go_enter Tryz.func24, Tryz.ntmps24
 go_wp2_with (first
  | ((with_reducible refine Zo 4 ?_); refine Zc _ rfl _ _ rfl _ rfl ?_; intro w1 b4 hg4 hl4 B4 q4; have HB4 := Za B4; have HG4 := Za hg4; have HQ4 := Za q4; clear hg4 hl4 B4 q4)
  | (go_at_call 67; refine (Zaa g _ (HC.out _ HQ4.out)).mono ?_; rintro e w' ⟨rfl, hx⟩; rw [hx]; clear hx w')
  | (go_at_call 68; refine (HFU.out _ HQ4.out).mono ?_; rintro e w4 ⟨rfl, b4'⟩; have HB44 := Za (HB4.out.grow b4'); have HQ5 := Za (Zb HQ4.out b4'); clear b4'))
 have HK4 : Hid (∀ w', Below w4.heap.size w4 w' → w'.rangeAt b4 0 (B K).toList) := fun w' hb => (HB44.out.grow hb).range
 have HK6 : Hid (∀ w5 w6, Below w4.heap.size w4 w5 → Mod (rsB g vp vf ss) w5 w6 → w6.rangeAt b4 0 (B K).toList) := fun w5 w6 hb m => ((HB44.out.grow hb).mod m (fun e => by have h1 := HLT.out _ e; have h2 := HG4.out; omega)).range
 refine wp_region_held_drew (S := fun w' => w'.rangeAt b4 0 (B K).toList) (by kernel_rfl) (HK4.out _ (below_drewN (Below.refl _ _) 1)) (fun hHeld => ?_)
 refine tkp 0 (.pointer (some ⟨g, 0, none⟩)) hHeld ?_
 simp only [zq]
 refine tkg 1 (.agg (B K)) rfl (yieldsIf_load_mid rfl 31 (.tmp 4) rfl b4 0 rfl (B K).toList _ (fun w hS => hS) Tryz.underlying31 rfl HPL.out) hHeld ?_
 simp only [zq]
 refine tkp 2 (.slice none 0 0) hHeld ?_
 simp only [zq]
 refine tkp 3 (.slice va vn vc) hHeld ?_
 simp only [zq]
 refine wpAnyH_ready (rs := [4]) (by kernel_rfl) (by simp) ?_
 refine AllReadyH.cons rfl (fun KQ hK => ?_) AllReadyH.nil
 refine Zyl _ rfl _ _ rfl w.heap.size _ _ [] [] bs (Own.nil _ _) (HRD.out _ (Zb HQ5.out (below_drewN (Below.refl _ _) 1))) rfl rfl (by have := HLN.out; simp; omega) (Nat.le_trans HQ5.out.size (Nat.le_refl _)) ?_
 intro v5 w5 sp5 o5 g5 _ _ _
 have HB5 : Hid (Below w4.heap.size w4 w5) := Zkk (below_drewN (Below.refl _ _) 1) g5
 have HO5 := Za o5
 obtain ⟨ua, uc, rfl⟩ := o5.slice
 clear o5 g5
 refine hK.out _ _ (HK4.out _ HB5.out) (fun hHeld => ?_)
 clear hK KQ
 have HX := Za (Zxk K ua bs.length uc bs HKL.out)
 have HY := Za (Zxj K ua bs.length uc HKL.out)
 refine tkg 5 (.agg (encP K (.slice ua bs.length uc)).toArray) rfl (Or.inl ⟨by rfl, fun w hS => Zbv _ _ 114 _ (by rfl) _ (by rw [List.map_toArray]; exact HY.out) w⟩) hHeld ?_
 simp only [zq]
 refine tkg 6 (.agg (sz7 (lf7 K (.slice ua bs.length uc) bs)).toArray) rfl (Or.inl ⟨by rfl, fun w hS => Zbv _ _ 116 _ (by rfl) _ (by rw [List.map_toArray]; exact HX.out) w⟩) hHeld ?_
 simp only [zq]
 refine wpAnyH_ready (rs := [7]) (by kernel_rfl) (by simp) ?_
 refine AllReadyH.cons rfl (fun KQ hK => ?_) AllReadyH.nil
 go_simp
 refine (HTK.out w5 (.slice ua bs.length uc) sp5 (Zb HQ5.out HB5.out) HO5.out).mono ?_
 rintro e w6 ⟨rfl, rt6, md6⟩
 have HRT := Za rt6
 have HMD := Za md6
 clear rt6 md6
 refine hK.out _ _ (HK6.out w5 w6 HB5.out HMD.out) (fun hHeld => ?_)
 clear hK KQ
 refine tkp 8 (.int .i64 th) hHeld ?_
 simp only [zq]
 refine tkp 9 (.int .i64 0) hHeld ?_
 simp only [zq]
 refine wpAnyH_done (by kernel_rfl) ?_ _
 clear hHeld
 go_wp2
 go_ret2
 exact ⟨rfl, ua, uc, by rw [HVN.out]; exact HRT.out⟩
def IsS (ss : List Sp) : Nat → Tre → Prop
 | h, .emp => h = 0
 | h, .lf k b => 1 ≤ h ∧ (spAt ss (h - 1)).kind = 1 ∧ (spAt ss (h - 1)).key = k ∧ (spAt ss (h - 1)).bs = b
 | h, .nd d hl hr l r => 1 ≤ h ∧ (spAt ss (h - 1)).kind = 2 ∧ (spAt ss (h - 1)).d = d ∧ (spAt ss (h - 1)).l = hl ∧ (spAt ss (h - 1)).r = hr ∧ IsS ss hl l ∧ IsS ss hr r
theorem IsT.s {cs : List (Nat × Ce)} {p q : List Nat} {ss : List Sp} (r : Rel7 cs p q ss) : ∀ {T : Tre} {h : Nat}, IsT cs h T → IsS ss h T
 | .emp, _, e => e
 | .lf _ _, h, ⟨h1, h2, h3, h4, h5⟩ => ⟨h1, by rw [r.kind]; exact h3, by rw [r.key _ h3]; exact h4, by rw [r.bs]; exact h5⟩
 | .nd _ _ _ _ _, h, ⟨h1, h2, h3, h4, h5, h6, h7, h8⟩ => ⟨h1, by rw [r.kind]; exact h3, by rw [r.d]; exact h4, by rw [r.l]; exact h5, by rw [r.r]; exact h6, h7.s r, h8.s r⟩
theorem Zun (ss : List Sp) {h : Nat} (h1 : 1 ≤ h) : sat ss (h : Int) = spAt ss (h - 1) := by
 unfold sat
 rw [if_pos (by omega), show ((h : Int) - 1).toNat = h - 1 by omega]
def EnPost (w0 : World) (es : List Ent) (w : World) (e : Ending) (w' : World) : Prop :=
 ∃ v its, e = .returned v ∧ its.map (·.1) = es ∧ (∀ p ∈ its, Key p.1.1 ∧ Reads w0 p.2 p.1.2) ∧ w'.ownsRow w.heap.size 114 33 v its.length (flatP its) ∧ Below w.heap.size w w'
theorem Zdr {w : World} {its : List (Ent × Value)} (h : ∀ p ∈ its, Key p.1.1 ∧ Reads w p.2 p.1.2) : ∀ u ∈ flatP its, u.oneCell' = true := fun u hu => by
 unfold flatP at hu
 rw [List.mem_flatMap] at hu
 obtain ⟨p, hp, hu⟩ := hu
 obtain ⟨_, _, e, _⟩ := (h p hp).2
 unfold encP at hu
 rcases List.mem_append.1 hu with hu | hu
 ·obtain ⟨z, _, rfl⟩ := List.mem_map.1 hu
  rfl
 ·obtain rfl : u = p.2 := by simpa using hu
  rw [e]
  rfl
theorem Zmh (ty : TypeId) (w : World) (base base2 : Nat) (v1 v2 : Value) (n1 n2 : Nat) (xs1 xs2 : List Value) (h1 : w.ownsRow base 114 33 v1 n1 xs1) (h2 : w.ownsRow base2 114 33 v2 n2 xs2) (hc : ∀ u ∈ xs2, u.oneCell' = true) (hn : n1 + n2 ≤ 65536) (hbase : base ≤ w.heap.size) :
  ∃ v' w', (Builtin.append_ #[166, 166] ty #[v1, v2]).run Tryz.prog w = .ok v' w' ∧ w'.ownsRow base 114 33 v' (n1 + n2) (xs1 ++ xs2) ∧ w.grownBy w' v1.ownBlock := by
 obtain ⟨i, z, hi, hz, hsz, hby, hzs⟩ := Zfy
 rcases h2.2 with ⟨rfl, rfl⟩ | ⟨g2, cap2, cur2, rfl, hb2, hg2, hnc2, hcm2, hcs2, ht2⟩
 ·have e : xs2 = [] := by have := h2.1; simpa using this
  subst e
  refine ⟨v1, w, ?_, by simpa using h1, World.grownBy.refl _ _⟩
  have ht : Tryz.prog.underlying 166 = some (.slice 114) := Tryz.underlying166
  rcases h1.2 with ⟨rfl, rfl⟩ | ⟨g, cap, cur, rfl, hb, hg, hnc, hcm, hcs, htk⟩
  ·simp [Builtin.append_, run_underlying ht, sizeOf, typeInfo, hi, Builtin.lenOf, Builtin.firstCells]
  ·simp [Builtin.append_, run_underlying ht, sizeOf, typeInfo, hi, Builtin.lenOf, Builtin.firstCells, hnc, storeCells]
 ·obtain ⟨v', w', hr, q1, q2, _⟩ := run_append_own (P := Tryz.prog) w base 166 ty 114 i z 33 56 Tryz.underlying166 hi hz hsz hby hzs (by omega) v1 n1 xs1 h1 ⟨g2, 0, none⟩ n2 cap2 xs2 (by rw [h2.1]) (fun j u hu => h2.cells (g := g2) rfl j u hu) hc (by simp only [maxLen]; omega) (by omega) hbase
  exact ⟨v', w', hr, q1, q2⟩
theorem Zrw {ops : Array Oper} {o : Oper} {a : Act} {K : Act → World → Prop} {Q : Exit → Act → World → Prop} {E : Prop} (w : World) (hgd : o.guard = none) (s x : Operand)
  (hop : o.op = .call { callee := .builtin .append, args := #[s, x], argTypes := #[166, 166] })
  (base base2 : Nat) (v1 v2 : Value) (n1 n2 : Nat) (xs1 xs2 : List Value) (hs : a.eval s = v1) (hx : a.eval x = v2) (h1 : w.ownsRow base 114 33 v1 n1 xs1) (h2 : w.ownsRow base2 114 33 v2 n2 xs2) (hc : ∀ u ∈ xs2, u.oneCell' = true) (hn : n1 + n2 ≤ 65536) (hbase : base ≤ w.heap.size)
  (hk : ∀ v' w', w'.ownsRow base 114 33 v' (n1 + n2) (xs1 ++ xs2) → w.grownBy w' v1.ownBlock → K (a.put o.dst v') w') : if Region.wanted o (yielded ops a.tmps) = true then Oper.wp Tryz.prog o a w K Q else E := by
 have hw : Region.wanted o (yielded ops a.tmps) = true := by simp [Region.wanted, hgd]
 rw [if_pos hw]
 obtain ⟨v', w', hr, q1, q2⟩ := Zmh o.type w base base2 v1 v2 n1 n2 xs1 xs2 h1 h2 hc hn hbase
 unfold Oper.wp execOp
 simp only [hop, resolve, invoke, builtin, Sem.run_bind, Sem.run_pure, Result.andThen_ok, List.map_toArray, List.map_cons, List.map_nil, hs, hx, hr]
 exact hk v' w' q1 q2
theorem Zzn (w : World) (k : List Int) (u : Value) (hk : k.length = 32) : (w.alloc (.cells (encP k u).toArray 114)).ownsRow w.heap.size 114 33 (.slice (some ⟨w.heap.size, 0, none⟩) 1 1) 1 (encP k u) := by
 refine ⟨by rw [Zab k u hk], .inr ⟨w.heap.size, 1, _, rfl, Nat.le_refl _, Blk.new _ _ _, Nat.le_refl _, by simp only [maxLen]; omega, by simp [Zab k u hk], ?_⟩⟩
 show (encP k u).take 33 = encP k u
 exact List.take_of_length_le (by rw [Zab k u hk]; exact Nat.le_refl _)
theorem Zgp {w : World} {g : Nat} {vp vf : Value} {room : Nat} {ss : List Sp} {fr : List Nat} (h : Rs w g vp vf room ss fr) (q : Int) (hk : (sat ss q).kind = 0) : Calls Tryz.prog 135 #[.pointer (some ⟨g, 0, none⟩), .int .i64 q] w fun e w' => e = .returned (.slice none 0 0) ∧ Below w.heap.size w w' := by
 have HA := Za (Zbb h q)
 have HO := Za (Zcd h q)
 have HL : Hid ((Tryz.prog.info? 116).map (·.size) = some (sz7 (sat ss q)).toArray.size) := by show _ = _; rw [List.size_toArray, Zw _ HO.out.hk.1]; exact Zbr
 have HZ := Za Zcp
 have HZL : Hid ((sz7 zs7).toArray.size = (sz7 (sat ss q)).toArray.size) := by show _ = _; rw [List.size_toArray, List.size_toArray, Zw _ HO.out.hk.1]; rfl
 have H1 := Za (Zcf HO.out)
 have c0 := (Zbz (sat ss q) HO.out.hk.1).1
 rw [hk] at c0
 generalize sz7 zs7 = Z at HZ HZL
 generalize sz7 (sat ss q) = X at HA HL HZL H1 c0
 have HC0 := Za c0
 clear h hk HO c0
 go_enter Tryz.func135, Tryz.ntmps135
 go_wp2_with (first
  | (go_at_call 84; refine HA.out.mono ?_; rintro e w1 ⟨rfl, b1⟩; have HB1 := Za b1; clear b1)
  | ((with_reducible refine Zx 5 ?_); refine Ze _ rfl _ rfl _ HZ.out ?_; intro w2 b5 hg5 hl5 B5 q2; have HB5 := Za B5; have HG5 := Za hg5; have HQ2 := Za q2; clear B5 hg5 hl5 q2)
  | ((with_reducible refine Zag 5 ?_); refine Zf _ rfl _ _ _ rfl b5 _ X.toArray rfl rfl HB5.out HL.out HZL.out (all_oneCell_toArray H1.out) ?_; intro w3 B6 r6; have HQ3 := Za (Zb HB1.out (Zd HQ2.out r6 HG5.out)); have cc0 := B6.cell 0; rw [List.getElem?_toArray, HC0.out] at cc0; clear B6 r6))
 go_ret
 exact ⟨rfl, HQ3.out⟩
theorem Zcy {w0 : World} {g : Nat} {vp vf : Value} {room : Nat} {ss : List Sp} {fr : List Nat} (h0 : Rs w0 g vp vf room ss fr) : ∀ (T : Tre) (h : Nat) (w : World), Below w0.heap.size w0 w → IsS ss h T → T.ents.length ≤ 10000 → Calls Tryz.prog 135 #[.pointer (some ⟨g, 0, none⟩), .int .i64 (h : Int)] w (EnPost w0 T.ents w)
 | .emp, h, w, hb, e, _ => by
  have e : h = 0 := e
  subst e
  exact (Zgp (h0.grow hb) ((0 : Nat) : Int) rfl).mono fun e w' ⟨e1, b⟩ => ⟨_, [], e1, rfl, fun p hp => (by cases hp), World.ownsRow_nil _ _ _ _, b⟩
 | .lf k bs, h, w, hb, ⟨h1, h2, h3, h4⟩, _ => by
  have hR := h0.grow hb
  have hs := Zun ss h1
  have ho := Zcx hR (h - 1)
  have HA : Hid (Calls Tryz.prog 84 #[.pointer (some ⟨g, 0, none⟩), .int .i64 (h : Int)] w fun e w' => e = .returned (.agg (sz7 (spAt ss (h - 1))).toArray) ∧ Below w.heap.size w w') := by
   have := Zbb hR (h : Int)
   rwa [hs] at this
  have hrd : Reads w0 (spAt ss (h - 1)).val (spAt ss (h - 1)).bs := by
   have hin : h - 1 < ss.length := Zfg (by rw [h2]; omega)
   obtain ⟨sp, hown⟩ := h0.vals (spAt ss (h - 1)) (by rw [show spAt ss (h - 1) = ss[h - 1] by simp [spAt, hin]]; exact List.getElem_mem hin)
   exact hown.reads
  obtain ⟨s, hse⟩ : ∃ s, s = spAt ss (h - 1) := ⟨_, rfl⟩
  rw [← hse] at HA hrd h2 h3 h4 ho
  have HL : Hid ((Tryz.prog.info? 116).map (·.size) = some (sz7 s).toArray.size) := by show _ = _; rw [List.size_toArray, Zw _ ho.hk.1]; exact Zbr
  have HZ := Za Zcp
  have HZL : Hid ((sz7 zs7).toArray.size = (sz7 s).toArray.size) := by show _ = _; rw [List.size_toArray, List.size_toArray, Zw _ ho.hk.1]; rfl
  have H1 := Za (Zcf ho)
  have c0 := (Zbz s ho.hk.1).1
  rw [h2] at c0
  have HEN : Hid (∀ w' b, Blk w' b 116 (sz7 s).toArray → w'.rangeAt b 2 (encP k s.val)) := fun w' b hB j v hv => by
   rw [hB.cell, List.getElem?_toArray]
   unfold sz7
   rw [h3, show 2 + j = (j + 1) + 1 by omega, List.getElem?_cons_succ, List.getElem?_cons_succ]
   have hj := (List.getElem?_eq_some_iff.1 hv).1
   rw [List.getElem?_append_left hj]
   exact hv
  have hkl : k.length = 32 := by rw [← h3]; exact ho.hk.1
  have hkk : Key k := by rw [← h3]; exact ho.hk
  rw [h4] at hrd
  have HRD := Za hrd
  have HPost : Hid (∀ w', Below w.heap.size w w' → EnPost w0 [(k, bs)] w (.returned (.slice (some ⟨w'.heap.size, 0, none⟩) 1 1)) (w'.alloc (.cells (encP k s.val).toArray 114))) := fun w' b => by
   refine ⟨_, [((k, bs), s.val)], rfl, rfl, fun p hp => ?_, ?_, Zb b (Zg _ _)⟩
   ·obtain rfl : p = ((k, bs), s.val) := by simpa using hp
    exact ⟨hkk, HRD.out⟩
   ·have := Zax (Zzn w' k s.val hkl) b.size
    simpa [flatP] using this
  have HKL := Za hkl
  have HPZ : Hid ((Tryz.prog.info? 114).map (·.size) = some (encP k s.val).length) := by show _ = _; rw [Zab _ _ hkl]; exact Zic
  obtain ⟨fP, hfP⟩ := Ybm
  have HUPa := Za hfP
  generalize sz7 zs7 = Z at HZ HZL
  generalize sz7 s = X at HA HL HZL H1 c0 HEN
  have HC0 := Za c0
  generalize (h : Int) = hy at HA ⊢
  show Calls Tryz.prog _ _ w (EnPost w0 [(k, bs)] w)
  generalize EnPost w0 [(k, bs)] w = P at HPost ⊢
  clear h2 h3 h4 ho c0 hR hs hse hrd hkl hkk hfP hb
  go_enter Tryz.func135, Tryz.ntmps135
  go_wp2_with (first
   | (go_at_call 84; refine HA.out.mono ?_; rintro e w1 ⟨rfl, b1⟩; have HB1 := Za b1; clear b1)
   | ((with_reducible refine Zx 5 ?_); refine Ze _ rfl _ rfl _ HZ.out ?_; intro w2 b5 hg5 hl5 B5 q2; have HB5 := Za B5; have HG5 := Za hg5; have HQ2 := Za q2; clear B5 hg5 hl5 q2)
   | ((with_reducible refine Zag 5 ?_); refine Zf _ rfl _ _ _ rfl b5 _ X.toArray rfl rfl HB5.out HL.out HZL.out (all_oneCell_toArray H1.out) ?_; intro w3 B6 r6; have HQ3 := Za (Zb HB1.out (Zd HQ2.out r6 HG5.out)); have HB6 := Za B6; have cc0 := B6.cell 0; rw [List.getElem?_toArray, HC0.out] at cc0; clear B6 r6)
   | ((with_reducible refine Zl 13 12 ?_); refine wpList_load_mid rfl 114 _ rfl b5 2 rfl (encP k s.val) _ (HEN.out _ _ HB6.out) HUPa.out rfl HPZ.out ?_)
   | (refine Zjp _ rfl _ rfl k s.val rfl HKL.out ?_))
  exact HPost.out _ HQ3.out
 | .nd d hl hr L R, h, w, hb, ⟨h1, h2, h3, h4, h5, h6, h7⟩, hn => by
  have hR := h0.grow hb
  have hs := Zun ss h1
  have ho := Zcx hR (h - 1)
  have hnL : L.ents.length + R.ents.length ≤ 10000 := by rw [← List.length_append]; exact hn
  have HIL : Hid (∀ w', Below w.heap.size w w' → Calls Tryz.prog 135 #[.pointer (some ⟨g, 0, none⟩), .int .i64 (hl : Int)] w' (EnPost w0 L.ents w')) := fun w' b => Zcy h0 L hl w' (Zb hb b) h6 (by omega)
  have HIR : Hid (∀ w', Below w.heap.size w w' → Calls Tryz.prog 135 #[.pointer (some ⟨g, 0, none⟩), .int .i64 (hr : Int)] w' (EnPost w0 R.ents w')) := fun w' b => Zcy h0 R hr w' (Zb hb b) h7 (by omega)
  have HA : Hid (Calls Tryz.prog 84 #[.pointer (some ⟨g, 0, none⟩), .int .i64 (h : Int)] w fun e w' => e = .returned (.agg (sz7 (spAt ss (h - 1))).toArray) ∧ Below w.heap.size w w') := by
   have := Zbb hR (h : Int)
   rwa [hs] at this
  obtain ⟨s, hse⟩ : ∃ s, s = spAt ss (h - 1) := ⟨_, rfl⟩
  rw [← hse] at HA h2 h3 h4 h5 ho
  have HL : Hid ((Tryz.prog.info? 116).map (·.size) = some (sz7 s).toArray.size) := by show _ = _; rw [List.size_toArray, Zw _ ho.hk.1]; exact Zbr
  have HZ := Za Zcp
  have HZL : Hid ((sz7 zs7).toArray.size = (sz7 s).toArray.size) := by show _ = _; rw [List.size_toArray, List.size_toArray, Zw _ ho.hk.1]; rfl
  have H1 := Za (Zcf ho)
  have hcs := Zbz s ho.hk.1
  have c0 := hcs.1
  have cl := hcs.2.2.2.1
  have cr := hcs.2.2.2.2.1
  rw [h2] at c0
  rw [h4] at cl
  rw [h5] at cr
  have HTN := Za hnL
  have HPost : Hid (∀ (its1 its2 : List (Ent × Value)) v w1 w', its1.map (·.1) = L.ents → its2.map (·.1) = R.ents → (∀ p ∈ its1, Key p.1.1 ∧ Reads w0 p.2 p.1.2) → (∀ p ∈ its2, Key p.1.1 ∧ Reads w0 p.2 p.1.2) → w'.ownsRow w.heap.size 114 33 v (its1.length + its2.length) (flatP its1 ++ flatP its2) → Below w.heap.size w w1 → Below w.heap.size w w' → EnPost w0 (L.ents ++ R.ents) w (.returned v) w') := fun its1 its2 v w1 w' m1 m2 p1 p2 o _ b => by
   refine ⟨v, its1 ++ its2, rfl, by rw [List.map_append, m1, m2], fun p hp => ?_, ?_, b⟩
   ·rcases List.mem_append.1 hp with hp | hp
    ·exact p1 p hp
    ·exact p2 p hp
   ·rw [List.length_append, show flatP (its1 ++ its2) = flatP its1 ++ flatP its2 by simp [flatP]]
    exact o
  generalize sz7 zs7 = Z at HZ HZL
  generalize sz7 s = X at HA HL HZL H1 c0 cl cr
  have HC0 := Za c0
  have HXl := Za cl
  have HXr := Za cr
  generalize (h : Int) = hy at HA ⊢
  generalize (hl : Int) = ly at HIL HXl
  generalize (hr : Int) = ry at HIR HXr
  show Calls Tryz.prog _ _ w (EnPost w0 (L.ents ++ R.ents) w)
  generalize EnPost w0 (L.ents ++ R.ents) w = P at HPost ⊢
  clear h2 h3 h4 h5 h6 h7 ho c0 cl cr hcs hR hs hse hn hnL hb
  go_enter Tryz.func135, Tryz.ntmps135
  go_wp2_with (first
   | (go_at_call 84; refine HA.out.mono ?_; rintro e w1 ⟨rfl, b1⟩; have HB1 := Za b1; clear b1)
   | ((with_reducible refine Zx 5 ?_); refine Ze _ rfl _ rfl _ HZ.out ?_; intro w2 b5 hg5 hl5 B5 q2; have HB5 := Za B5; have HG5 := Za hg5; have HQ2 := Za q2; clear B5 hg5 hl5 q2)
   | ((with_reducible refine Zag 5 ?_); refine Zf _ rfl _ _ _ rfl b5 _ X.toArray rfl rfl HB5.out HL.out HZL.out (all_oneCell_toArray H1.out) ?_; intro w3 B6 r6; have HQ3 := Za (Zb HB1.out (Zd HQ2.out r6 HG5.out)); have HB6 := Za B6; have cc0 := B6.cell 0; rw [List.getElem?_toArray, HC0.out] at cc0; clear B6 r6))
  have HCl : Hid (∀ w', Below w3.heap.size w3 w' → w'.cell? ⟨b5, 35, none⟩ = some (.int .i64 ly)) := fun w' b => by rw [(HB6.out.grow b).cell, List.getElem?_toArray]; exact HXl.out
  have HCr : Hid (∀ w', Below w3.heap.size w3 w' → w'.cell? ⟨b5, 36, none⟩ = some (.int .i64 ry)) := fun w' b => by rw [(HB6.out.grow b).cell, List.getElem?_toArray]; exact HXr.out
  refine wp_region_held_drew (S := fun w' => Below w3.heap.size w3 w') (by kernel_rfl) ((below_drewN (Below.refl _ _) 1)) (fun hHeld => ?_)
  refine tkp 0 (.pointer (some ⟨g, 0, none⟩)) hHeld ?_
  simp only [zq]
  refine tkp 1 (.pointer (some ⟨b5, 35, none⟩)) hHeld ?_
  simp only [zq]
  refine tkg 2 (.int .i64 ly) rfl (Or.inl ⟨by rfl, fun w hS => by (have q1 := HCl.out _ hS; go_simp)⟩) hHeld ?_
  simp only [zq]
  refine tkp 4 (.pointer (some ⟨g, 0, none⟩)) hHeld ?_
  simp only [zq]
  refine tkp 5 (.pointer (some ⟨b5, 36, none⟩)) hHeld ?_
  simp only [zq]
  refine tkg 6 (.int .i64 ry) rfl (Or.inl ⟨by rfl, fun w hS => by (have q1 := HCr.out _ hS; go_simp)⟩) hHeld ?_
  simp only [zq]
  refine wpAnyH_ready (rs := [3]) (by kernel_rfl) (by simp) ?_
  refine AllReadyH.cons rfl (fun KQ hK => ?_) AllReadyH.nil
  go_simp
  refine (HIL.out _ (Zb HQ3.out hHeld)).mono ?_
  rintro e z1 ⟨v1, its1, rfl, m1, p1, o1, q1⟩
  have O1 := Za o1
  have P1 := Za p1
  have M1 := Za m1
  have Q1 := Za q1
  have HS1 := Za hHeld
  clear o1 p1 m1 q1
  refine hK.out _ _ (Zb hHeld Q1.out) (fun hHeld => ?_)
  clear hK KQ
  refine wpAnyH_ready (rs := [7]) (by kernel_rfl) (by simp) ?_
  refine AllReadyH.cons rfl (fun KQ hK => ?_) AllReadyH.nil
  go_simp
  refine (HIR.out _ (Zb HQ3.out hHeld)).mono ?_
  rintro e z2 ⟨v2, its2, rfl, m2, p2, o2, q2⟩
  have O2 := Za o2
  have P2 := Za p2
  have M2 := Za m2
  have Q2 := Za q2
  have HS2 := Za hHeld
  clear o2 p2 m2 q2
  refine hK.out _ _ (Zb hHeld Q2.out) (fun hHeld => ?_)
  clear hK KQ
  have O1c : Hid (z2.ownsRow w3.heap.size 114 33 v1 its1.length (flatP its1)) := Zax (Zp O1.out Q2.out) HS1.out.size
  have O1b := Za (Zax (base' := w.heap.size) (Zp O1.out Q2.out) (Zb HQ3.out HS1.out).size)
  have HN12 : Hid (its1.length + its2.length ≤ 10000) := by
   have e1 := congrArg List.length M1.out
   have e2 := congrArg List.length M2.out
   rw [List.length_map] at e1 e2
   have := HTN.out
   show _ ≤ _
   omega
  refine wpAnyH_ready (rs := [8]) (by kernel_rfl) (by simp) ?_
  refine AllReadyH.cons rfl (fun KQ hK => ?_) AllReadyH.nil
  refine Zrw _ rfl _ _ rfl w.heap.size z1.heap.size v1 v2 its1.length its2.length (flatP its1) (flatP its2) rfl rfl O1b.out (Zax O2.out (Nat.le_refl _)) (Zdr P2.out) (by have := HN12.out; omega) (Nat.le_trans (Zb HQ3.out hHeld).size (Nat.le_refl _)) ?_
  intro v8 z8 o8 g8
  have HB8 : Hid (Below w3.heap.size w3 z8) := Zar hHeld O1c.out (Nat.le_refl _) g8
  have O8 := Za o8
  refine hK.out _ _ HB8.out (fun hHeld => ?_)
  clear hK KQ o8 g8
  refine tkp 9 v8 hHeld ?_
  simp only [zq]
  refine wpAnyH_done (by kernel_rfl) ?_ _
  have HF := Za hHeld
  clear hHeld
  go_wp2
  exact HPost.out its1 its2 v8 w3 _ M1.out M2.out P1.out P2.out O8.out HQ3.out (Zb HQ3.out HF.out)
end Go.Proofs.YtbkolhhgajkjjaaGreatDoor
