/-
  panel's Nodes and the document's: the nodes of a set, rising.
-/
import Derived.Test.YtoplngccejkkcaaFive
namespace Go.Proofs.Ytoplngccejkkcaa
open Go.RowKit

theorem nodes_no {n : Int} (s : Int) (w : World) (h : Pn.No n) : Calls Try.prog 18 #[.int .i64 n, .int .i64 s] w fun e w' => e = .returned (.tuple #[.slice none 0 0, .int .i64 1]) ∧ w' = w := by
  have H : Hid (Pn.No n) := h
  clear h
  go_enter Try.func18, Try.ntmps18
  go_wp2_with fail
  refine (isPanel_no _ H.out).mono ?_
  rintro e w' ⟨rfl, rfl⟩
  go_wp2
  go_ret2
  exact ⟨rfl, rfl⟩
theorem nodes_arg {n f : Int} (s : Int) (w : World) (h : Pn.Is n f) (hs : s < 0 ∨ 2 ^ n.toNat ≤ s) : Calls Try.prog 18 #[.int .i64 n, .int .i64 s] w fun e w' => e = .returned (.tuple #[.slice none 0 0, .int .i64 1]) ∧ w' = w := by
  have H : Hid (Pn.Is n f) := h
  have HS : Hid (s < 0 ∨ 2 ^ n.toNat ≤ s) := hs
  clear h hs
  go_enter Try.func18, Try.ntmps18
  go_wp2_with fail
  refine (isPanel_yes _ H.out).mono ?_
  rintro e w' ⟨rfl, rfl⟩
  go_wp2_with fail
  refine (isSet_no _ _ H.out HS.out).mono ?_
  rintro e w' ⟨rfl, rfl⟩
  go_wp2
  go_ret2
  exact ⟨rfl, rfl⟩
theorem one_new_at (W : World) (g : Nat) (hg : g = W.heap.size) (a : Value) (T : TypeId) : ∀ j u, [a][j]? = some u → (W.alloc (.cells #[a] T)).cell? ((⟨g, 0, none⟩ : Addr).add j) = some u := by
  subst hg
  intro j u hj
  rw [Go.WideShapes.add_plain]
  match j, hj with
  | 0, hj => simp at hj; subst hj; simp
theorem info3 : (Try.prog.info? 3).map (fun i => (i.zero, i.size, i.bytes)) = some (some (.int .i64 0), 1, 8) := by kernel_rfl
theorem and_one : ∀ x : Fin 128, bits .and .i64 (x.1 : Int) 1 = ((x.1 % 2 : Nat) : Int) := by decide +kernel
theorem bit_and {s k : Nat} (h : s < 128) : bits .and .i64 ((s : Int) / 2 ^ k) 1 = if Pn.bit s k then 1 else 0 := by
  have e : ((s : Int) / 2 ^ k) = ((s / 2 ^ k : Nat) : Int) := by simp
  have hl : s / 2 ^ k < 128 := Nat.lt_of_le_of_lt (Nat.div_le_self _ _) h
  rw [e, and_one ⟨s / 2 ^ k, hl⟩]
  unfold Pn.bit
  by_cases hb : s / 2 ^ k % 2 = 1
  · simp [hb]
  · have : s / 2 ^ k % 2 = 0 := by omega
    simp [this]
set_option maxRecDepth 100000 in
set_option maxHeartbeats 1000000 in
theorem nodes_yes {n f : Int} (s : Nat) (w : World) (h : Pn.Is n f) (hs : s < 2 ^ n.toNat) : Calls Try.prog 18 #[.int .i64 n, .int .i64 s] w fun e w' => ∃ v, e = .returned (.tuple #[v, .int .i64 0]) ∧ w'.ownsRow w.heap.size 3 1 v (Pn.nodes s n.toNat).length ((Pn.nodes s n.toNat).map (Value.int .i64)) ∧ Below w.heap.size w w' := by
  have H : Hid (Pn.Is n f) := h
  obtain ⟨i0, hi, hz0, hz1, hz2⟩ := info_parts info3
  obtain ⟨m, hm, hm7⟩ : ∃ m : Nat, n = m ∧ m ≤ 7 := by obtain ⟨k, _, h1, h2⟩ := h.nat; exact ⟨2 * k + 1, h1, by omega⟩
  subst hm
  have hsI : ((s : Nat) : Int) < 2 ^ (m : Int).toNat := by
    have : ((s : Nat) : Int) < ((2 ^ (m : Int).toNat : Nat) : Int) := by omega
    simpa using this
  have HS : Hid (((s : Nat) : Int) < 2 ^ (m : Int).toNat) := hsI
  have hlt : s < 128 := Nat.lt_of_lt_of_le hs (Nat.le_trans (Nat.pow_le_pow_right (by decide) (show (m : Int).toNat ≤ 7 by omega)) (by decide))
  have c0 : (0 : Int) ≤ (s : Int) := by omega
  have c1 : (s : Int) < 128 := by omega
  have c7 : (m : Int) ≤ 7 := by omega
  simp only [Int.toNat_natCast]
  clear h hsI hs
  go_enter Try.func18, Try.ntmps18
  go_wp2_with fail
  refine (isPanel_yes _ H.out).mono ?_
  rintro e w' ⟨rfl, rfl⟩
  go_wp2_with fail
  refine (isSet_yes _ _ H.out HS.out).mono ?_
  rintro e w' ⟨rfl, rfl⟩
  go_wp2
  go_loopw [6, 18] (fun v u wr => ∃ k : Nat, k ≤ m ∧ u = .int .i64 k ∧ wr.ownsRow w'.heap.size 3 1 v (Pn.nodes s k).length ((Pn.nodes s k).map (Value.int .i64)) ∧ Below w'.heap.size w' wr) (fun _ u _ => m - (intOf u).toNat)
  case atStart => exact ⟨0, Nat.zero_le _, rfl, World.ownsRow_nil _ _ _ _, Below.refl _ _⟩
  case round =>
    obtain ⟨k, hk, rfl, hrow, hbl⟩ := hrel
    by_cases hlt' : k < m
    · have hltI : (k : Int) < (m : Int) := by omega
      have hlen := Pn.nodes_le s k
      cases hb : Pn.bit s k with
      | true =>
        have hbit : bits .and .i64 ((s : Int) / 2 ^ k) 1 = 1 := by rw [bit_and hlt, hb]; rfl
        go_wp2_with (at_builtin; refine wpList_append_own _ rfl _ _ 35 rfl w'.heap.size 3 i0 (.int .i64 0) 1 8 Try.underlying35 hi hz0 hz1 hz2 rfl (by decide) _ _ _ rfl (hrow.alloc _) ⟨_, 0, none⟩ 1 1 [.int .i64 k] rfl rfl ?c1 ?c2 ?c3 ?c4 ?c5 ?_)
        case c1 => exact one_new_at _ _ rfl _ _
        case c2 => exact ints_oneCell .i64 [(k : Int)]
        case c3 => unfold maxLen; omega
        case c4 => omega
        case c5 => have := hbl.size; simp; omega
        intro v' w2 hown2 hg2 _
        have hga := grown_trans (World.grownBy_alloc wr (.cells #[.int .i64 k] 3) u6.ownBlock) hg2
        have hb2 : Below w'.heap.size w' w2 := hbl.grown hga hbl.size (fun j hj => (hrow.lt j hj).1)
        have hown3 : w2.ownsRow w'.heap.size 3 1 v' (Pn.nodes s (k + 1)).length ((Pn.nodes s (k + 1)).map (Value.int .i64)) := by
          rw [Pn.nodes_yes hb]
          simpa using hown2
        clear hown2 hg2 hga hrow hbl
        go_wp2
        go_roundw
        case rel => exact ⟨k + 1, by omega, by go_num, hown3, hb2⟩
        case measure => simp [intOf]; omega
      | false =>
        have hbit : bits .and .i64 ((s : Int) / 2 ^ k) 1 = 0 := by rw [bit_and hlt, hb]; rfl
        go_wp2
        go_roundw
        case rel => exact ⟨k + 1, by omega, by go_num, by rw [Pn.nodes_no hb]; exact hrow, hbl⟩
        case measure => simp [intOf]; omega
    · obtain rfl : k = m := by omega
      go_wp2
      go_ret2
      exact ⟨_, rfl, hrow, hbl⟩

theorem refNodes_no {n : Int} (s : Int) (w : World) (h : Pn.No n) : Calls Try.prog 19 #[.int .i64 n, .int .i64 s] w fun e w' => e = .returned (.tuple #[.slice none 0 0, .bool false]) ∧ w' = w := by
  have H : Hid (Pn.No n) := h
  clear h
  go_enter Try.func19, Try.ntmps19
  go_wp2_with fail
  refine (refFaults_no _ H.out).mono ?_
  rintro e w' ⟨rfl, rfl⟩
  go_wp2
  go_ret2
  exact ⟨rfl, rfl⟩
theorem refNodes_neg {n f : Int} (s : Int) (w : World) (h : Pn.Is n f) (hs : s < 0) : Calls Try.prog 19 #[.int .i64 n, .int .i64 s] w fun e w' => e = .returned (.tuple #[.slice none 0 0, .bool false]) ∧ w' = w := by
  have H : Hid (Pn.Is n f) := h
  have f0 : ¬ f < 0 := by obtain ⟨k, hk, _, _⟩ := h.nat; omega
  clear h
  go_enter Try.func19, Try.ntmps19
  go_wp2_with fail
  refine (refFaults_yes _ H.out).mono ?_
  rintro e w' ⟨rfl, rfl⟩
  go_wp2
  go_ret2
  exact ⟨rfl, rfl⟩
theorem div_pow_succ (s k : Nat) : s / 2 ^ (k + 1) = s / 2 ^ k / 2 := by rw [Nat.pow_succ, Nat.div_div_eq_div_mul]
set_option maxRecDepth 100000 in
set_option maxHeartbeats 1000000 in
theorem refNodes_any {n f : Int} (s : Nat) (w : World) (h : Pn.Is n f) (hs : (s : Int) ≤ 9223372036854775807) : Calls Try.prog 19 #[.int .i64 n, .int .i64 s] w fun e w' => ∃ v, e = .returned (.tuple #[v, .bool (decide (s < 2 ^ n.toNat))]) ∧ w'.ownsRow w.heap.size 3 1 v (Pn.nodes s n.toNat).length ((Pn.nodes s n.toNat).map (Value.int .i64)) ∧ Below w.heap.size w w' := by
  have H : Hid (Pn.Is n f) := h
  obtain ⟨i0, hi, hz0, hz1, hz2⟩ := info_parts info3
  have f0 : ¬ f < 0 := by obtain ⟨k, hk, _, _⟩ := h.nat; omega
  obtain ⟨m, hm, hm7⟩ : ∃ m : Nat, n = m ∧ m ≤ 7 := by obtain ⟨k, _, h1, h2⟩ := h.nat; exact ⟨2 * k + 1, h1, by omega⟩
  subst hm
  have c0 : ¬ (s : Int) < 0 := by omega
  have c7 : (m : Int) ≤ 7 := by omega
  simp only [Int.toNat_natCast]
  clear h
  go_enter Try.func19, Try.ntmps19
  go_wp2_with fail
  refine (refFaults_yes _ H.out).mono ?_
  rintro e w' ⟨rfl, rfl⟩
  go_wp2
  go_loopw [1, 6, 7] (fun t v u wr => ∃ k y : Nat, k ≤ m ∧ t = .int .i64 y ∧ Hid (y = s / 2 ^ k) ∧ (y : Int) ≤ 9223372036854775807 ∧ u = .int .i64 k ∧ wr.ownsRow w'.heap.size 3 1 v (Pn.nodes s k).length ((Pn.nodes s k).map (Value.int .i64)) ∧ Below w'.heap.size w' wr) (fun _ _ u _ => m - (intOf u).toNat)
  case atStart => exact ⟨0, s, Nat.zero_le _, rfl, show s = s / 2 ^ 0 by simp, hs, rfl, World.ownsRow_nil _ _ _ _, Below.refl _ _⟩
  case round =>
    obtain ⟨k, y, hk, rfl, HY, hy, rfl, hrow, hbl⟩ := hrel
    by_cases hlt' : k < m
    · have hltI : (k : Int) < (m : Int) := by omega
      have hlen := Pn.nodes_le s k
      have hy0 : (0 : Int) ≤ (y : Int) := by omega
      have HY' : Hid (y / 2 = s / 2 ^ (k + 1)) := show y / 2 = s / 2 ^ (k + 1) by rw [div_pow_succ, ← HY.out]
      cases hb : Pn.bit s k with
      | true =>
        have hbit : (y : Int) % 2 = 1 := by
          have : y % 2 = 1 := by rw [HY.out]; simpa [Pn.bit] using hb
          omega
        go_wp2_with (at_builtin; refine wpList_append_own _ rfl _ _ 35 rfl w'.heap.size 3 i0 (.int .i64 0) 1 8 Try.underlying35 hi hz0 hz1 hz2 rfl (by decide) _ _ _ rfl (hrow.alloc _) ⟨_, 0, none⟩ 1 1 [.int .i64 k] rfl rfl ?c1 ?c2 ?c3 ?c4 ?c5 ?_)
        case c1 => exact one_new_at _ _ rfl _ _
        case c2 => exact ints_oneCell .i64 [(k : Int)]
        case c3 => unfold maxLen; omega
        case c4 => omega
        case c5 => have := hbl.size; simp; omega
        intro v' w2 hown2 hg2 _
        have hga := grown_trans (World.grownBy_alloc wr (.cells #[.int .i64 k] 3) u6.ownBlock) hg2
        have hb2 : Below w'.heap.size w' w2 := hbl.grown hga hbl.size (fun j hj => (hrow.lt j hj).1)
        have hown3 : w2.ownsRow w'.heap.size 3 1 v' (Pn.nodes s (k + 1)).length ((Pn.nodes s (k + 1)).map (Value.int .i64)) := by
          rw [Pn.nodes_yes hb]
          simpa using hown2
        clear hown2 hg2 hga hrow hbl
        go_wp2
        go_roundw
        case rel => exact ⟨k + 1, y / 2, by omega, by go_num, HY', by omega, by go_num, hown3, hb2⟩
        case measure => simp [intOf]; omega
      | false =>
        have hbit : ¬ (y : Int) % 2 = 1 := by
          have : ¬ y % 2 = 1 := by rw [HY.out]; simpa [Pn.bit] using hb
          omega
        go_wp2
        go_roundw
        case rel => exact ⟨k + 1, y / 2, by omega, by go_num, HY', by omega, by go_num, by rw [Pn.nodes_no hb]; exact hrow, hbl⟩
        case measure => simp [intOf]; omega
    · obtain rfl : k = m := by omega
      have HD : Hid ((((y : Nat) : Int) == 0) = decide (s < 2 ^ k)) := by
        have h1 : y = 0 ↔ s < 2 ^ k := by rw [HY.out]; exact Nat.div_eq_zero_iff_lt (Nat.two_pow_pos k)
        show (((y : Nat) : Int) == 0) = decide (s < 2 ^ k)
        rw [Bool.eq_iff_iff]
        simp only [beq_iff_eq, decide_eq_true_eq, ← h1]
        omega
      go_wp2
      go_ret2
      rw [← HD.out]
      exact ⟨_, rfl, hrow, hbl⟩

theorem ints_same (u v : Value) (l : List Int) (w : World) (hu : IntsAt w u l) (hv : IntsAt w v l) :
    Calls Try.prog 20 #[u, v] w fun e w' => e = .returned (.bool true) ∧ Below w.heap.size w w' := by
  rcases hu with ⟨ao, cap, rfl, rfl⟩ | ⟨b, off, cap, rfl, hB, hp, hlc, hm, hx⟩
  · rcases hv with ⟨ao', cap', rfl, _⟩ | ⟨b', off', cap', rfl, hB', hp', hlc', hm', hx'⟩
    · go_enter Try.func20, Try.ntmps20
      go_wp2
      refine wp_loop_rounds 1 ?_
      rw [rounds_succ]
      go_wp2
      go_ret
      exact ⟨rfl, Below.refl _ _⟩
    · simp at hp'
  · rcases hv with ⟨ao', cap', rfl, rfl⟩ | ⟨b', off', cap', rfl, hB', hp', hlc', hm', hx'⟩
    · simp at hp
    · unfold maxLen at hm hm'
      obtain ⟨n, hn⟩ : ∃ n, l.length = n := ⟨_, rfl⟩
      rw [hn] at hp hlc hlc' hx hx' ⊢
      have HX : Hid ((∀ i, i < n → w.cell? ⟨b, off + i, none⟩ = some (.int .i64 (l.getD i 0))) ∧ ∀ i, i < n → w.cell? ⟨b', off' + i, none⟩ = some (.int .i64 (l.getD i 0))) := ⟨hx, hx'⟩
      clear hn hx hx' hp'
      go_enter Try.func20, Try.ntmps20
      go_wp2
      go_loopw [8] (fun i wr => ∃ k : Nat, k ≤ n ∧ i = .int .i64 k ∧ Below w.heap.size w wr) (fun i _ => n - (intOf i).toNat)
      case atStart => exact ⟨0, Nat.zero_le _, rfl, Below.refl _ _⟩
      case round =>
        obtain ⟨k, hk, rfl, hbl⟩ := hrel
        by_cases hlt : k < n
        · have c0 := HX.out.1 k hlt
          have c1 := HX.out.2 k hlt
          rw [← hbl.cell (p := ⟨b, off + k, none⟩) hB] at c0
          rw [← hbl.cell (p := ⟨b', off' + k, none⟩) hB'] at c1
          generalize l.getD k 0 = s at c0 c1
          have hg : decide ((n : Int) ≤ (k : Int)) = false := by simp; omega
          have hlt' : (k : Int) < (n : Int) := by omega
          go_wp2
          go_quiet (fail)
          go_wp2
          go_roundw
          case rel => exact ⟨k + 1, by omega, by go_num, Go.below_drewN hbl _⟩
          case measure => simp [intOf]; omega
        · obtain rfl : k = n := by omega
          go_wp2
          go_ret
          exact ⟨rfl, hbl⟩
end Go.Proofs.Ytoplngccejkkcaa
