/-
  The statements' own Entries and Reply: yes of what is one, and of the zero reply alone beside the zero one.
-/
import Derived.Test.YtapjgkhbanpmjaaRBase
namespace Go.Proofs.Ytapjgkhbanpmjaa
open Go.ChangeShapes Go.WideShapes Go.ChangeAt Go.RowKit Go.Deep
open Ak

set_option maxRecDepth 100000 in
set_option maxHeartbeats 1000000 in
theorem entries_same {S T : Nat → Prop} (u v : Value) (l : List (ByteArray × Int × Int × Int)) (w : World) (hu : At EE S w u l) (hv : At EE T w v l) :
    Calls Try.prog 34 #[u, v] w fun e w' => e = .returned (.bool true) ∧ Below w.heap.size w w' := by
  obtain ⟨ao, cap, rfl, hm, hx⟩ := hu.open
  obtain ⟨bo, cap', rfl, _, hy⟩ := hv.open
  clear hu hv
  unfold maxLen at hm
  obtain ⟨n, hn⟩ : ∃ n, l.length = n := ⟨_, rfl⟩
  rw [hn] at hm ⊢
  have HN : Hid (l.length = n) := hn
  have HX : Hid (∀ i x, l[i]? = some x → ∃ b off, ao = some ⟨b, off, none⟩ ∧ S b ∧ b < w.heap.size ∧ ∀ k u, (EE.cells x)[k]? = some u → w.cell? ⟨b, off + (i * 4 + k), none⟩ = some u) := hx
  have HY : Hid (∀ i x, l[i]? = some x → ∃ b off, bo = some ⟨b, off, none⟩ ∧ T b ∧ b < w.heap.size ∧ ∀ k u, (EE.cells x)[k]? = some u → w.cell? ⟨b, off + (i * 4 + k), none⟩ = some u) := hy
  clear hn hx hy
  go_enter Try.func34, Try.ntmps34
  go_wp2
  go_loopw [8] (fun i wr => ∃ k : Nat, k ≤ n ∧ i = .int .i64 k ∧ Below w.heap.size w wr) (fun i _ => n - (intOf i).toNat)
  case atStart => exact ⟨0, Nat.zero_le _, rfl, Below.refl _ _⟩
  case round =>
    obtain ⟨k, hk, rfl, hbl⟩ := hrel
    by_cases hlt : k < n
    · obtain ⟨y, hyk⟩ : ∃ y, l[k]? = some y := ⟨_, List.getElem?_eq_getElem (by rw [HN.out]; exact hlt)⟩
      obtain ⟨b, off, rfl, _, hB, hc⟩ := HX.out k y hyk
      obtain ⟨b', off', rfl, _, hB', hc'⟩ := HY.out k y hyk
      have c0 := hc 0 _ rfl
      have c1 := hc 1 _ rfl
      have c2 := hc 2 _ rfl
      have c3 := hc 3 _ rfl
      have d0 := hc' 0 _ rfl
      have d1 := hc' 1 _ rfl
      have d2 := hc' 2 _ rfl
      have d3 := hc' 3 _ rfl
      rw [← hbl.cell (p := ⟨b, off + (k * 4 + 0), none⟩) hB, Nat.add_zero] at c0
      rw [← hbl.cell (p := ⟨b, off + (k * 4 + 1), none⟩) hB, ← Nat.add_assoc] at c1
      rw [← hbl.cell (p := ⟨b, off + (k * 4 + 2), none⟩) hB, ← Nat.add_assoc] at c2
      rw [← hbl.cell (p := ⟨b, off + (k * 4 + 3), none⟩) hB, ← Nat.add_assoc] at c3
      rw [← hbl.cell (p := ⟨b', off' + (k * 4 + 0), none⟩) hB', Nat.add_zero] at d0
      rw [← hbl.cell (p := ⟨b', off' + (k * 4 + 1), none⟩) hB', ← Nat.add_assoc] at d1
      rw [← hbl.cell (p := ⟨b', off' + (k * 4 + 2), none⟩) hB', ← Nat.add_assoc] at d2
      rw [← hbl.cell (p := ⟨b', off' + (k * 4 + 3), none⟩) hB', ← Nat.add_assoc] at d3
      obtain ⟨y0, y1, y2, y3⟩ := y
      simp only at c0 c1 c2 c3 d0 d1 d2 d3
      have hlt' : (k : Int) < (n : Int) := by omega
      have hge : decide ((n : Int) ≤ (k : Int)) = false := by simp; omega
      have hge2 : decide (n ≤ k) = false := by simp; omega
      clear hyk hc hc'
      go_wp2
      go_quiet (fail)
      go_wp2
      go_roundw
      case rel => exact ⟨k + 1, by omega, by go_num, Go.below_drewN hbl _⟩
      case measure => simp [intOf]; omega
    · obtain rfl : k = n := by omega
      go_wp2
      go_ret
      exact ⟨by simp, hbl⟩
set_option maxRecDepth 100000 in
set_option maxHeartbeats 1000000 in
theorem entries_none (u : Value) (l : List Ent) (w : World) (hu : AtW EE w u l) (hl : l ≠ []) :
    Calls Try.prog 34 #[u, .slice none 0 0] w fun e w' => e = .returned (.bool false) ∧ Below w.heap.size w w' := by
  obtain ⟨ao, cap, rfl, hm, hx⟩ := hu.open
  clear hu
  unfold maxLen at hm
  obtain ⟨n, hn⟩ : ∃ n, l.length = n := ⟨_, rfl⟩
  have hp : 0 < n := by
    rw [← hn]
    cases l with
    | nil => exact absurd rfl hl
    | cons x l => simp
  rw [hn] at hm ⊢
  have hp' : (0 : Int) < (n : Int) := by omega
  have hge : decide ((0 : Int) ≤ (0 : Int)) = true := rfl
  clear hn hx hl
  go_enter Try.func34, Try.ntmps34
  go_wp2
  refine wp_loop_rounds 1 ?_
  rw [rounds_succ]
  go_wp2
  go_quiet (fail)
  go_wp2
  go_ret
  exact ⟨rfl, Go.below_drewN (Below.refl _ _) _⟩
theorem eql_hand (no gen : Int) (w : World) : (binOp .eql 24 (VH no gen) (VH no gen)).run Try.prog w = .ok (.bool true) w := by
  have t1 : (no == no) = true := beq_self_eq_true _
  have t2 : (gen == gen) = true := beq_self_eq_true _
  go_simp
theorem eql_hand0 (no gen : Int) (w : World) (h : hnz no gen = true) : (binOp .eql 24 (VH no gen) (VH 0 0)).run Try.prog w = .ok (.bool false) w := by
  unfold hnz at h
  cases h1 : (no == 0) <;> cases h2 : (gen == 0) <;> simp [h1, h2] at h <;> go_simp <;> simp [h1, h2]
theorem eql_attr (k l s t : Int) (w : World) : (binOp .eql 26 (VA k l s t) (VA k l s t)).run Try.prog w = .ok (.bool true) w := by
  have t1 : (k == k) = true := beq_self_eq_true _
  have t2 : (l == l) = true := beq_self_eq_true _
  have t3 : (s == s) = true := beq_self_eq_true _
  have t4 : (t == t) = true := beq_self_eq_true _
  go_simp
theorem eql_attr0 (k l s t : Int) (w : World) (h : Re.anz k l s t = true) : (binOp .eql 26 (VA k l s t) (VA 0 0 0 0)).run Try.prog w = .ok (.bool false) w := by
  unfold Re.anz at h
  cases h1 : (k == 0) <;> cases h2 : (l == 0) <;> cases h3 : (s == 0) <;> cases h4 : (t == 0) <;> simp [h1, h2, h3, h4] at h <;> go_simp <;> simp [h1, h2, h3, h4]
set_option maxRecDepth 100000 in
set_option maxHeartbeats 2000000 in
theorem reply_same {S U : Nat → Prop} (r : Rep) (u v : Value) (w : World) (hu : At EE S w u r.ents) (hv : At EE U w v r.ents) : Calls Try.prog 13 #[VR r u, VR r v] w fun e w' => e = .returned (.bool true) ∧ Below w.heap.size w w' := by
  obtain ⟨e, no, gen, k, l, s, t, data, ents, n⟩ := r
  have HU : Hid (At EE S w u ents) := hu
  have HV : Hid (At EE U w v ents) := hv
  obtain ⟨ao, cap, rfl, -, -⟩ := HU.out.open
  obtain ⟨bo, cap', rfl, -, -⟩ := HV.out.open
  obtain ⟨z, hz⟩ : ∃ z, ents.length = z := ⟨_, rfl⟩
  rw [hz] at HU HV ⊢
  have t0 : (e == e) = true := beq_self_eq_true _
  have t1 : ∀ w', (binOp .eql 24 (VH no gen) (VH no gen)).run Try.prog w' = .ok (.bool true) w' := eql_hand no gen
  have t2 : ∀ w', (binOp .eql 26 (VA k l s t) (VA k l s t)).run Try.prog w' = .ok (.bool true) w' := eql_attr k l s t
  have t3 : (data.toList == data.toList) = true := beq_self_eq_true _
  have t4 : (n == n) = true := beq_self_eq_true _
  clear hu hv hz
  go_enter Try.func13, Try.ntmps13
  go_wp2_with fail
  refine (entries_same _ _ ents _ ((HU.out.al _).al _) ((HV.out.al _).al _)).mono ?_
  rintro e' w1 ⟨rfl, hb1⟩
  go_wp2
  go_ret
  exact ⟨rfl, (((Below.refl _ _).alloc (Nat.le_refl _) _).alloc (by simp) _).trans (hb1.mono (by simp; omega))⟩
set_option maxRecDepth 100000 in
set_option maxHeartbeats 4000000 in
theorem reply_zero (r : Rep) (u : Value) (b : Bool) (w : World) (hu : AtW EE w u r.ents) (hb : b = true ↔ r = Re.zero) : Calls Try.prog 13 #[VR r u, VR Re.zero (.slice none 0 0)] w fun e w' => e = .returned (.bool b) ∧ Below w.heap.size w w' := by
  by_cases hr : r = Re.zero
  · rw [hb.2 hr]
    subst hr
    exact reply_same Re.zero u _ w hu (At.nil (S := fun _ => True))
  have hbf : b = false := by rw [Bool.eq_false_iff]; exact fun h => hr (hb.1 h)
  rw [hbf]
  clear hb hbf
  obtain ⟨e, no, gen, k, l, s, t, data, ents, n⟩ := r
  have HU : Hid (AtW EE w u ents) := hu
  obtain ⟨ao, cap, rfl, -, -⟩ := HU.out.open
  obtain ⟨z, hz⟩ : ∃ z, ents.length = z := ⟨_, rfl⟩
  rw [hz] at HU ⊢
  clear hu hz
  show Calls Try.prog 13 #[VR ⟨e, no, gen, k, l, s, t, data, ents, n⟩ (.slice ao z cap), .agg #[.int .i64 0, .int .i64 0, .int .i64 0, .int .i64 0, .int .i64 0, .int .i64 0, .int .i64 0, .string ⟨#[]⟩, .slice none 0 0, .int .i64 0]] w _
  by_cases h0 : e = 0
  case neg =>
    have t0 : (e == 0) = false := by simpa using h0
    clear hr h0
    go_enter Try.func13, Try.ntmps13
    go_wp2
    go_ret
    exact ⟨rfl, ((Below.refl _ _).alloc (Nat.le_refl _) _).alloc (by simp) _⟩
  cases h1 : hnz no gen with
  | true =>
    have t1 : ∀ w', (binOp .eql 24 (VH no gen) (VH 0 0)).run Try.prog w' = .ok (.bool false) w' := fun w' => eql_hand0 no gen w' h1
    subst h0
    clear hr h1
    go_enter Try.func13, Try.ntmps13
    go_wp2
    go_ret
    exact ⟨rfl, ((Below.refl _ _).alloc (Nat.le_refl _) _).alloc (by simp) _⟩
  | false =>
  obtain ⟨e1, e2⟩ := hz_of h1
  cases h2 : Re.anz k l s t with
  | true =>
    have t1 : ∀ w', (binOp .eql 26 (VA k l s t) (VA 0 0 0 0)).run Try.prog w' = .ok (.bool false) w' := fun w' => eql_attr0 k l s t w' h2
    subst h0
    subst e1
    subst e2
    clear hr h1 h2
    go_enter Try.func13, Try.ntmps13
    go_wp2
    go_ret
    exact ⟨rfl, ((Below.refl _ _).alloc (Nat.le_refl _) _).alloc (by simp) _⟩
  | false =>
  obtain ⟨a1, a2, a3, a4⟩ : k = 0 ∧ l = 0 ∧ s = 0 ∧ t = 0 := by unfold Re.anz at h2; simpa using h2
  by_cases h3 : data = ⟨#[]⟩
  case neg =>
    have t3 : data.toList.isEmpty = false := by
      rw [ByteArray.toList_eq, List.isEmpty_eq_false_iff]
      intro he
      apply h3
      rw [← Pl.txt_toList data, he]
      rfl
    subst h0
    subst e1
    subst e2
    subst a1
    subst a2
    subst a3
    subst a4
    clear hr h1 h2 h3
    go_enter Try.func13, Try.ntmps13
    go_wp2
    go_ret
    exact ⟨rfl, ((Below.refl _ _).alloc (Nat.le_refl _) _).alloc (by simp) _⟩
  by_cases h4 : n = 0
  case neg =>
    have t4 : (n == 0) = false := by simpa using h4
    subst h0
    subst e1
    subst e2
    subst a1
    subst a2
    subst a3
    subst a4
    subst h3
    clear hr h1 h2 h4
    go_enter Try.func13, Try.ntmps13
    go_wp2
    go_ret
    exact ⟨rfl, ((Below.refl _ _).alloc (Nat.le_refl _) _).alloc (by simp) _⟩
  have HE : Hid (ents ≠ []) := by
    intro he
    apply hr
    rw [h0, e1, e2, a1, a2, a3, a4, h3, h4, he]
    rfl
  subst h0
  subst e1
  subst e2
  subst a1
  subst a2
  subst a3
  subst a4
  subst h3
  subst h4
  clear hr h1 h2
  go_enter Try.func13, Try.ntmps13
  go_wp2_with fail
  refine (entries_none _ ents _ ((HU.out.al _).al _) HE.out).mono ?_
  rintro e' w1 ⟨rfl, hb1⟩
  go_wp2
  go_ret
  exact ⟨rfl, (((Below.refl _ _).alloc (Nat.le_refl _) _).alloc (by simp) _).trans (hb1.mono (by simp; omega))⟩
end Go.Proofs.Ytapjgkhbanpmjaa
