/-
  shard's Missing, joined and Text; slices.Contains at the texts.
-/
import Derived.Test.YtceeafmahoelfaaDoorHAdd
import Derived.Test.YtceeafmahoelfaaDoorHShelf
namespace Go.Proofs.YtceeafmahoelfaaDoor
open Go.ChangeShapes Go.WideShapes Go.ChangeAt Go.RowKit

/-- The value v stands for the list l of ints. -/
def IntsAt (w : World) (v : Value) (l : List Int) : Prop :=
  (∃ ao cap, v = .slice ao 0 cap ∧ l = []) ∨
  (∃ b off cap, v = .slice (some ⟨b, off, none⟩) l.length cap ∧ b < w.heap.size ∧ 0 < l.length ∧ l.length ≤ cap ∧ cap ≤ maxLen ∧
    ∀ i, i < l.length → w.cell? ⟨b, off + i, none⟩ = some (.int .i64 (l.getD i 0)))
theorem IntsAt.of_own {base : Nat} {w : World} {v : Value} {e : TypeId} {l : List Int} {n : Nat} (h : w.ownsRow base e 1 v n (l.map (Value.int .i64))) : IntsAt w v l := by
  have hn : n = l.length := by have := h.1; simp at this; omega
  subst hn
  have hlt := h.lt
  rcases h.2 with ⟨rfl, hn⟩ | ⟨g, cap, cur, rfl, hbg, hg, hnc, hcm, hcs, htake⟩
  · exact .inl ⟨none, 0, rfl, List.eq_nil_of_length_eq_zero hn⟩
  · by_cases hp : 0 < l.length
    · refine .inr ⟨g, 0, cap, rfl, (hlt g rfl).2, hp, hnc, hcm, fun i hi => ?_⟩
      have := h.cells (g := g) rfl i (.int .i64 (l.getD i 0)) (by simp [List.getD, hi])
      rw [WideShapes.add_plain] at this
      exact this
    · have : l = [] := List.eq_nil_of_length_eq_zero (by omega)
      subst this
      exact .inl ⟨_, _, rfl, rfl⟩
theorem IntsAt.up {w w' : World} {v : Value} {l : List Int} (h : IntsAt w v l) (hb : Below w.heap.size w w') : IntsAt w' v l := by
  rcases h with h | ⟨b, off, cap, rfl, hb', hp, hc, hm, hx⟩
  · exact .inl h
  · exact .inr ⟨b, off, cap, rfl, Nat.lt_of_lt_of_le hb' hb.size, hp, hc, hm, fun i hi => (hb.cell (p := ⟨b, off + i, none⟩) hb').trans (hx i hi)⟩
theorem IntsAt.slice {w : World} {v : Value} {l : List Int} (h : IntsAt w v l) : ∃ ao cap, v = .slice ao l.length cap ∧ l.length ≤ maxLen := by
  rcases h with ⟨ao, cap, rfl, rfl⟩ | ⟨b, off, cap, rfl, _, _, h1, h2, _⟩
  · exact ⟨_, _, rfl, by simp⟩
  · exact ⟨_, _, rfl, by omega⟩
theorem info3 : (Tryd.prog.info? 3).map (fun i => (i.zero, i.size, i.bytes)) = some (some (.int .i64 0), 1, 8) := by kernel_rfl
theorem one_new_at (W : World) (g : Nat) (hg : g = W.heap.size) (a : Value) (T : TypeId) : ∀ j u, [a][j]? = some u → (W.alloc (.cells #[a] T)).cell? ((⟨g, 0, none⟩ : Addr).add j) = some u := by
  subst hg
  intro j u hj
  rw [Go.WideShapes.add_plain]
  match j, hj with
  | 0, hj => simp at hj; subst hj; simp
theorem own_low {w : World} {base base' : Nat} {e : TypeId} {size : Nat} {v : Value} {n : Nat} {xs : List Value} (h : w.ownsRow base e size v n xs) (hb : base' ≤ base) : w.ownsRow base' e size v n xs := by
  refine ⟨h.1, ?_⟩
  rcases h.2 with h2 | ⟨g, cap, cur, h0, hB, h1⟩
  · exact .inl h2
  · exact .inr ⟨g, cap, cur, h0, Nat.le_trans hb hB, h1⟩
theorem missing_nil (w : World) : Calls Tryd.prog 21 #[.pointer none] w fun e w' => e = .returned (.slice none 0 0) ∧ w' = w := by
  go_enter Tryd.func21, Tryd.ntmps21
  go_wp2_with fail
  refine (pieces_nil _).mono ?_
  rintro e w1 ⟨rfl, rfl⟩
  go_wp2
  refine wp_loop_rounds 1 ?_
  rw [rounds_succ]
  go_wp2
  go_ret
  exact ⟨rfl, rfl⟩
set_option maxRecDepth 100000 in
set_option maxRecDepth 100000 in
set_option maxHeartbeats 1000000 in
theorem missing_any (A : Nat) (m : Sh.Mf) (f : Nat → ByteArray) (w : World) (hA : AsmAt w A m f) (hm : Sh.okM m = true) : Calls Tryd.prog 21 #[.pointer (some ⟨A, 0, none⟩)] w fun e w' => ∃ v n, e = .returned v ∧ w'.ownsRow w.heap.size 3 1 v n ((Sh.mis f (Sh.cnt m.size.toNat)).map (Value.int .i64)) ∧ Below w.heap.size w w' := by
  have HA : Hid (AsmAt w A m f) := hA
  have HM : Hid (Sh.okM m = true) := hm
  have hlt := hA.lt
  obtain ⟨k0, hk0, _, hk2⟩ := Sh.okM_size hm
  have hcl : Sh.cnt m.size.toNat ≤ 256 := Sh.cnt_le (by omega)
  obtain ⟨i0, hi, hz0, hz1, hz2⟩ := info_parts info3
  clear hA hm hk0 hk2
  go_enter Tryd.func21, Tryd.ntmps21
  go_wp2_with fail
  refine (pieces_any A m f _ HA.out HM.out).mono ?_
  rintro e w1 ⟨rfl, q, hq⟩
  have HB1 : Hid (Below w.heap.size w w1) := show Below w.heap.size w w1 by rw [hq]; exact Go.below_drewN (Below.refl _ _) q
  have HA1 : Hid (AsmAt w1 A m f) := show AsmAt w1 A m f by rw [hq]; exact HA.out
  have hlt1 := HA1.out.lt
  clear hq HA
  obtain ⟨c, hcc⟩ : ∃ c, Sh.cnt m.size.toNat = c := ⟨_, rfl⟩
  have HC : Hid (Sh.cnt m.size.toNat = c) := hcc
  rw [hcc] at hcl ⊢
  clear hcc
  go_wp2
  go_loopw [3, 9] (fun v u wr => ∃ k : Nat, k ≤ c ∧ u = .int .i64 k ∧ wr.ownsRow w1.heap.size 3 1 v (Sh.mis f k).length ((Sh.mis f k).map (Value.int .i64)) ∧ Below w1.heap.size w1 wr) (fun _ u _ => c - (intOf u).toNat)
  case atStart => exact ⟨0, Nat.zero_le _, rfl, World.ownsRow_nil _ _ _ _, Below.refl _ _⟩
  case round =>
    obtain ⟨k, hk, rfl, hrow, hbl⟩ := hrel
    have hsz := hbl.size
    by_cases hltk : k < c
    · have hltI : (k : Int) < (c : Int) := by omega
      have cf := (hbl.cell (p := ⟨A, 3 + k, none⟩) hlt1).trans (HA1.out.cell (i := k) (by omega)).1
      have hml := Sh.mis_len f k
      by_cases h0 : (f k).size = 0
      · have HX : Hid (Sh.mis f (k + 1) = Sh.mis f k ++ [(k : Int)]) := Sh.mis_yes h0
        have he : (f k).toList.isEmpty = true := toList_none h0
        clear h0
        generalize f k = y at cf he
        go_wp2_with (at_builtin; refine wpList_append_own _ rfl _ _ 56 rfl w1.heap.size 3 i0 (.int .i64 0) 1 8 Tryd.underlying56 hi hz0 hz1 hz2 rfl (by decide) _ _ _ rfl (hrow.alloc _) ⟨_, 0, none⟩ 1 1 [.int .i64 k] rfl rfl ?c1 ?c2 ?c3 ?c4 ?c5 ?_)
        case c1 => exact one_new_at _ _ rfl _ _
        case c2 => exact ints_oneCell .i64 [(k : Int)]
        case c3 => unfold maxLen; omega
        case c4 => omega
        case c5 => simp; omega
        intro v3 w3 hown3 hg3 _
        have hga := grown_trans (World.grownBy_alloc wr (.cells #[.int .i64 k] 3) u3.ownBlock) hg3
        have hb3 : Below w1.heap.size w1 w3 := hbl.grown hga hbl.size (fun j hj => (hrow.lt j hj).1)
        clear hg3 hga hrow hbl
        go_wp2
        go_roundw
        case rel => exact ⟨k + 1, by omega, by go_num, by rw [HX.out]; simpa using hown3, hb3⟩
        case measure => simp [intOf]; omega
      · have HX : Hid (Sh.mis f (k + 1) = Sh.mis f k) := Sh.mis_no h0
        have he : (f k).toList.isEmpty = false := toList_full h0
        clear h0
        generalize f k = y at cf he
        go_wp2
        go_roundw
        case rel => exact ⟨k + 1, by omega, by go_num, by rw [HX.out]; exact hrow, hbl⟩
        case measure => simp [intOf]; omega
    · obtain rfl : c = k := by omega
      go_wp2
      go_ret
      rw [HC.out]
      exact ⟨u3, _, rfl, own_low hrow HB1.out.size, bup HB1.out hbl⟩
/-- Is one of the first n texts empty? -/
def Sh.gap (f : Nat → ByteArray) (n : Nat) : Bool := decide ((Sh.mis f n).length ≠ 0)
theorem Sh.gap_iff {f : Nat → ByteArray} {n : Nat} : Sh.gap f n = true ↔ ∃ i, i < n ∧ (f i).size = 0 := by
  unfold Sh.gap
  rw [decide_eq_true_eq, Ne, Sh.mis_nil]
  simp
set_option maxRecDepth 100000 in
set_option maxRecDepth 100000 in
set_option maxHeartbeats 1000000 in
theorem index_any (A n : Nat) (f : Nat → ByteArray) (w : World) (hn : n ≤ 256) (hc : ∀ i, i < n → w.cell? ⟨A, 3 + i, none⟩ = some (.string (f i))) : Calls Tryd.prog 37 #[.slice (some ⟨A, 3, none⟩) n 256, .string ⟨#[]⟩] w fun e w' => ∃ z : Int, e = .returned (.int .i64 z) ∧ w' = w ∧ Hid (decide (0 ≤ z) = Sh.gap f n) := by
  have HX : Hid (∀ i, i < n → w.cell? ⟨A, 3 + i, none⟩ = some (.string (f i))) := hc
  have he0 : (⟨#[]⟩ : ByteArray).toList = [] := by rw [ByteArray.toList_eq]
  clear hc
  go_enter Tryd.func37, Tryd.ntmps37
  go_wp2
  go_loop [8] (fun u => ∃ k : Nat, k ≤ n ∧ u = .int .i64 k ∧ Hid (∀ i, i < k → (f i).size ≠ 0)) (fun u => n - (intOf u).toNat)
  case atStart => exact ⟨0, Nat.zero_le _, rfl, fun i hi => by omega⟩
  case round =>
    obtain ⟨k, hk, rfl, HK⟩ := hrel
    by_cases hlt : k < n
    · have hltI : (k : Int) < (n : Int) := by omega
      have cf := HX.out k hlt
      by_cases h0 : (f k).size = 0
      · have HG : Hid (Sh.gap f n = true) := Sh.gap_iff.2 ⟨k, hlt, h0⟩
        have he : (([] : List UInt8) == (f k).toList) = true := by
          have hd : (f k).data.toList = [] := List.eq_nil_of_length_eq_zero (by rw [Array.length_toList]; exact h0)
          rw [ByteArray.toList_eq, hd]; rfl
        clear h0
        generalize f k = y at cf he
        go_wp2
        go_ret
        exact ⟨k, rfl, rfl, show decide ((0 : Int) ≤ (k : Int)) = Sh.gap f n by rw [HG.out]; simp⟩
      · have HK' : Hid (∀ i, i < k + 1 → (f i).size ≠ 0) := fun i hi => by
          by_cases e : i = k
          · subst e; exact h0
          · exact HK.out i (by omega)
        have he : (([] : List UInt8) == (f k).toList) = false := by
          rw [ByteArray.toList_eq, beq_eq_false_iff_ne]
          intro h
          have : (f k).data.toList.length = 0 := by rw [← h]; rfl
          exact h0 (by rw [Array.length_toList] at this; exact this)
        clear h0
        generalize f k = y at cf he
        go_wp2
        go_round
        case rel => exact ⟨k + 1, by omega, by go_num, HK'⟩
        case measure => simp [intOf]; omega
    · obtain rfl : n = k := by omega
      have HG : Hid (Sh.gap f n = false) := show Sh.gap f n = false by
        rw [← Bool.not_eq_true, Sh.gap_iff]
        rintro ⟨i, hi, h⟩
        exact HK.out i hi h
      go_wp2
      go_ret
      exact ⟨-1, rfl, rfl, show decide ((0 : Int) ≤ -1) = Sh.gap f n by rw [HG.out]; rfl⟩
set_option maxRecDepth 100000 in
set_option maxHeartbeats 1000000 in
theorem contains_any (A n : Nat) (f : Nat → ByteArray) (w : World) (hn : n ≤ 256) (hc : ∀ i, i < n → w.cell? ⟨A, 3 + i, none⟩ = some (.string (f i))) : Calls Tryd.prog 32 #[.slice (some ⟨A, 3, none⟩) n 256, .string ⟨#[]⟩] w fun e w' => e = .returned (.bool (Sh.gap f n)) ∧ w' = w := by
  have HX : Hid (∀ i, i < n → w.cell? ⟨A, 3 + i, none⟩ = some (.string (f i))) := hc
  clear hc
  go_enter Tryd.func32, Tryd.ntmps32
  go_wp2_with fail
  refine (index_any A n f _ hn HX.out).mono ?_
  rintro e w1 ⟨z, rfl, rfl, HZ⟩
  go_wp2
  go_ret
  exact ⟨congrArg (fun b => Ending.returned (Value.bool b)) HZ.out, rfl⟩
end Go.Proofs.YtceeafmahoelfaaDoor
