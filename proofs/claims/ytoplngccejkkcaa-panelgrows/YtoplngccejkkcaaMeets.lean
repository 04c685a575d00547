/-
  For any three ints sextonlaw06.PanelMeets returns true, whatever the memory: two sets that are enough have a node in common, and each has a replica in it. No condition.
-/
import Derived.Test.YtoplngccejkkcaaNodes
import Derived.Test.YtoplngccejkkcaaLaw
namespace Go.Proofs.Ytoplngccejkkcaa
open Go.ChangeShapes Go.WideShapes Go.ChangeAt Go.RowKit

/-- Enough, or why not: no memory is turned. -/
theorem enough_ex (n s : Int) : ∃ (b : Bool) (e : Int), (∀ w, Calls Try.prog 17 #[.int .i64 n, .int .i64 s] w fun x w' => x = .returned (.tuple #[.bool b, .int .i64 e]) ∧ w' = w) ∧
    ((e = 1) ∨ (e = 0 ∧ ∃ (f : Int) (k : Nat), Pn.Is n f ∧ s = k ∧ k < 2 ^ n.toNat ∧ b = decide (f + 1 ≤ ((List.range n.toNat).countP (Pn.bit k) : Nat)))) := by
  rcases Pn.either n with h | ⟨f, h⟩
  · exact ⟨false, 1, fun w => enough_no s w h, .inl rfl⟩
  by_cases hs : s < 0
  · exact ⟨false, 1, fun w => enough_arg s w h (.inl hs), .inl rfl⟩
  obtain ⟨k, rfl⟩ : ∃ k : Nat, s = k := ⟨s.toNat, by omega⟩
  by_cases hk : k < 2 ^ n.toNat
  · exact ⟨_, 0, fun w => enough_yes k w h hk, .inr ⟨rfl, f, k, h, rfl, hk, rfl⟩⟩
  · refine ⟨false, 1, fun w => enough_arg k w h (.inr ?_), .inl rfl⟩
    have : ((2 ^ n.toNat : Nat) : Int) ≤ (k : Int) := by omega
    simpa using this
theorem Pn.Is.same {n f g : Int} (h : Pn.Is n f) (k : Pn.Is n g) : f = g := by
  obtain ⟨a, rfl, ha, _⟩ := h.nat
  obtain ⟨b, rfl, hb, _⟩ := k.nat
  omega
set_option maxHeartbeats 400000 in
/-- Where the first is not enough, or an error is told. -/
theorem meets_not (n a b : Int) (x y : Bool) (e g : Int) (w : World) (c1 : ∀ w, Calls Try.prog 17 #[.int .i64 n, .int .i64 a] w fun z w' => z = .returned (.tuple #[.bool x, .int .i64 e]) ∧ w' = w) (c2 : ∀ w, Calls Try.prog 17 #[.int .i64 n, .int .i64 b] w fun z w' => z = .returned (.tuple #[.bool y, .int .i64 g]) ∧ w' = w)
    (h : e = 1 ∨ (e = 0 ∧ g = 1) ∨ (e = 0 ∧ g = 0 ∧ x = false)) : Calls Try.prog 6 #[.int .i64 n, .int .i64 a, .int .i64 b] w fun e w' => e = .returned (.bool true) ∧ Below w.heap.size w w' := by
  have C1 : Hid _ := c1
  have C2 : Hid _ := c2
  clear c1 c2
  rcases h with rfl | ⟨rfl, rfl⟩ | ⟨rfl, rfl, rfl⟩
  all_goals
    go_enter Try.func6, Try.ntmps6
    go_wp2_with fail
    refine (C1.out _).mono ?_
    rintro e w' ⟨rfl, rfl⟩
    go_wp2_with fail
    refine (C2.out _).mono ?_
    rintro e w' ⟨rfl, rfl⟩
    go_wp2_with fail
    refine (five_any _).mono ?_
    rintro z w3 ⟨rfl, hb⟩
    have HB3 : Hid (Below w'.heap.size w' w3) := hb
    clear hb
    go_wp2
    go_ret
    exact ⟨rfl, HB3.out⟩

/-- What both loops have found: a replica among the first nodes, a node in common. -/
def Pn.low (f : Int) (l : List Int) : Bool := l.any fun i => decide (i < f + 1)
def Pn.both (m l : List Int) : Bool := l.any fun i => m.any fun j => decide (i = j)
theorem any_take (p : Int → Bool) (l : List Int) (k : Nat) (h : k < l.length) : (l.take (k + 1)).any p = ((l.take k).any p || p (l.getD k 0)) := by
  rw [List.take_succ_eq_append_getElem h, List.any_append, List.getD_eq_getElem?_getD, List.getElem?_eq_getElem h]
  simp
theorem Pn.low_true {n f : Int} {a : Nat} (h : Pn.Is n f) (hc : f + 1 ≤ ((List.range n.toNat).countP (Pn.bit a) : Nat)) : Pn.low f (Pn.nodes a n.toNat) = true := by
  obtain ⟨k, rfl, hn, _⟩ := h.nat
  obtain ⟨i, h1, h2, h3⟩ := Pn.has_low (p := Pn.bit a) (n := n.toNat) (f := k) (by omega) (by omega)
  unfold Pn.low
  rw [List.any_eq_true]
  exact ⟨(i : Int), Pn.mem_nodes.2 ⟨i, h2, h3, rfl⟩, by simp; omega⟩
theorem Pn.both_true {n f : Int} {a b : Nat} (h : Pn.Is n f) (ha : f + 1 ≤ ((List.range n.toNat).countP (Pn.bit a) : Nat)) (hb : f + 1 ≤ ((List.range n.toNat).countP (Pn.bit b) : Nat)) : Pn.both (Pn.nodes b n.toNat) (Pn.nodes a n.toNat) = true := by
  obtain ⟨k, rfl, hn, _⟩ := h.nat
  obtain ⟨i, h1, h2, h3⟩ := Pn.meets (p := Pn.bit a) (q := Pn.bit b) (n := n.toNat) (f := k) (by omega) (by omega) (by omega)
  unfold Pn.both
  rw [List.any_eq_true]
  refine ⟨(i : Int), Pn.mem_nodes.2 ⟨i, h1, h2, rfl⟩, ?_⟩
  rw [List.any_eq_true]
  exact ⟨(i : Int), Pn.mem_nodes.2 ⟨i, h1, h3, rfl⟩, by simp⟩
/-- A slice of ints by its length, and its cells where there are any. -/
theorem IntsAt.open {w : World} {v : Value} {l : List Int} (h : IntsAt w v l) : ∃ ao cap, v = .slice ao l.length cap ∧ ∀ j, j < l.length → ∃ b off, ao = some ⟨b, off, none⟩ ∧ w.cell? ⟨b, off + j, none⟩ = some (.int .i64 (l.getD j 0)) := by
  rcases h with ⟨ao, cap, rfl, rfl⟩ | ⟨b, off, cap, rfl, _, _, _, _, hx⟩
  · exact ⟨ao, cap, rfl, fun j hj => by simp at hj⟩
  · exact ⟨_, cap, rfl, fun j hj => ⟨b, off, rfl, hx j hj⟩⟩
set_option maxRecDepth 100000 in
set_option maxHeartbeats 4000000 in
theorem meets_go (n f : Int) (a b : Nat) (y : Bool) (w : World) (h : Pn.Is n f) (ha : a < 2 ^ n.toNat) (hb : b < 2 ^ n.toNat) (hc : f + 1 ≤ ((List.range n.toNat).countP (Pn.bit a) : Nat)) (hy : y = decide (f + 1 ≤ ((List.range n.toNat).countP (Pn.bit b) : Nat)))
    (c1 : ∀ w, Calls Try.prog 17 #[.int .i64 n, .int .i64 a] w fun z w' => z = .returned (.tuple #[.bool true, .int .i64 0]) ∧ w' = w) (c2 : ∀ w, Calls Try.prog 17 #[.int .i64 n, .int .i64 b] w fun z w' => z = .returned (.tuple #[.bool y, .int .i64 0]) ∧ w' = w) :
    Calls Try.prog 6 #[.int .i64 n, .int .i64 a, .int .i64 b] w fun e w' => e = .returned (.bool true) ∧ Below w.heap.size w w' := by
  have C1 : Hid _ := c1
  have C2 : Hid _ := c2
  have H : Hid (Pn.Is n f) := h
  have HA : Hid (a < 2 ^ n.toNat ∧ b < 2 ^ n.toNat) := ⟨ha, hb⟩
  have HL : Hid (Pn.low f (Pn.nodes a n.toNat) = true ∧ (y = true → Pn.both (Pn.nodes b n.toNat) (Pn.nodes a n.toNat) = true)) := ⟨Pn.low_true h hc, fun e => Pn.both_true h hc (by rw [e] at hy; simpa using hy)⟩
  have HN : Hid ((∀ x ∈ Pn.nodes a n.toNat, 0 ≤ x ∧ x < n) ∧ (Pn.nodes a n.toNat).length ≤ 7 ∧ (Pn.nodes b n.toNat).length ≤ 7) := by
    obtain ⟨k, _, hn, h7⟩ := h.nat
    refine ⟨fun x hx => ?_, Nat.le_trans (Pn.nodes_le _ _) (by omega), Nat.le_trans (Pn.nodes_le _ _) (by omega)⟩
    obtain ⟨i, h1, _, rfl⟩ := Pn.mem_nodes.1 hx
    omega
  clear c1 c2 h ha hb hc hy
  go_enter Try.func6, Try.ntmps6
  go_wp2_with fail
  refine (C1.out _).mono ?_
  rintro e w' ⟨rfl, rfl⟩
  go_wp2_with fail
  refine (C2.out _).mono ?_
  rintro e w' ⟨rfl, rfl⟩
  go_wp2_with fail
  refine (nodes_yes _ _ H.out HA.out.1).mono ?_
  rintro e w1 ⟨v1, rfl, hrow1, hb1⟩
  have HR1 : Hid (IntsAt w1 v1 (Pn.nodes a n.toNat)) := IntsAt.of_own hrow1
  have HB1 : Hid (Below w'.heap.size w' w1) := hb1
  clear hb1 hrow1
  go_wp2_with fail
  refine (nodes_yes _ _ H.out HA.out.2).mono ?_
  rintro e w2 ⟨v2, rfl, hrow2, hb2⟩
  have HR2 : Hid (IntsAt w2 v2 (Pn.nodes b n.toNat)) := IntsAt.of_own hrow2
  have HR1' : Hid (IntsAt w2 v1 (Pn.nodes a n.toNat)) := IntsAt.kept HR1.out hb2 (Nat.le_refl _)
  have HB2 : Hid (Below w'.heap.size w' w2) := HB1.out.trans (hb2.mono HB1.out.size)
  clear hb2 hrow2 HR1 HB1 C1 C2 HA
  generalize Pn.nodes a n.toNat = l at *
  generalize Pn.nodes b n.toNat = m at *
  obtain ⟨p1, k1, rfl, hx1⟩ := HR1'.out.open
  obtain ⟨p2, k2, rfl, hx2⟩ := HR2.out.open
  have HX1 : Hid _ := hx1
  have HX2 : Hid _ := hx2
  have l7 : (l.length : Int) ≤ 7 := by have := HN.out; omega
  have m7 : (m.length : Int) ≤ 7 := by have := HN.out; omega
  clear hx1 hx2 HR1' HR2
  go_wp2
  go_loop [15, 16, 66] (fun t u v => ∃ (j : Nat) (r q : Bool), j ≤ l.length ∧ v = .int .i64 j ∧ t = .bool r ∧ u = .bool q ∧ Hid (r = Pn.low f (l.take j) ∧ q = Pn.both m (l.take j))) (fun _ _ v => l.length - (intOf v).toNat)
  case atStart => exact ⟨0, false, false, Nat.zero_le _, rfl, rfl, rfl, rfl, rfl⟩
  case round =>
    obtain ⟨j, r, q, hj, rfl, rfl, rfl, HJ⟩ := hrel
    by_cases hlt : j < l.length
    · obtain ⟨b1, o1, rfl, c0⟩ := HX1.out j hlt
      have hlt' : (j : Int) < (l.length : Int) := by omega
      have HM : Hid (0 ≤ l.getD j 0 ∧ l.getD j 0 < n) := HN.out.1 _ (Pn.getD_mem hlt)
      have HT : Hid (Pn.low f (l.take (j + 1)) = (Pn.low f (l.take j) || decide (l.getD j 0 < f + 1)) ∧ Pn.both m (l.take (j + 1)) = (Pn.both m (l.take j) || m.any fun i => decide (l.getD j 0 = i))) := ⟨any_take _ l j hlt, any_take _ l j hlt⟩
      generalize l.getD j 0 = x at *
      go_wp2_with fail
      refine (replica_yes x _ H.out HM.out.1 HM.out.2).mono ?_
      rintro e w3 ⟨rfl, rfl⟩
      generalize decide (x < f + 1) = d at *
      obtain ⟨r', hr'⟩ : ∃ r', r' = (r || d) := ⟨_, rfl⟩
      have HR : Hid (r' = (r || d)) := hr'
      clear hr'
      cases r <;> (try cases d)
      all_goals
        go_wp2
        go_loop [16, 84] (fun u v => ∃ (i : Nat) (q' : Bool), i ≤ m.length ∧ v = .int .i64 i ∧ u = .bool q' ∧ Hid (q' = (q || (m.take i).any fun z => decide (x = z)))) (fun _ v => m.length - (intOf v).toNat)
        case atStart => exact ⟨0, q, Nat.zero_le _, rfl, rfl, by show q = (q || false); simp⟩
        case round =>
          obtain ⟨i, q', hi, rfl, rfl, HQ⟩ := hrel
          by_cases hlt2 : i < m.length
          · obtain ⟨b2, o2, rfl, c2⟩ := HX2.out i hlt2
            have hlt2' : (i : Int) < (m.length : Int) := by omega
            have HT2 : Hid _ := any_take (fun z => decide (x = z)) m i hlt2
            generalize m.getD i 0 = z at *
            cases q' with
            | true =>
              go_wp2
              go_round
              case rel => exact ⟨i + 1, true, by omega, by go_num, rfl, by show true = _; rw [HT2.out, ← Bool.or_assoc, ← HQ.out]; rfl⟩
              case measure => simp [intOf]; omega
            | false =>
              by_cases hxz : x = z
              · go_wp2
                go_round
                case rel => exact ⟨i + 1, true, by omega, by go_num, by simp, by show true = _; rw [HT2.out, ← Bool.or_assoc, ← HQ.out]; simp [hxz]⟩
                case measure => simp [intOf]; omega
              · go_wp2
                go_round
                case rel => exact ⟨i + 1, false, by omega, by go_num, by simp [hxz], by show false = _; rw [HT2.out, ← Bool.or_assoc, ← HQ.out]; simp [hxz]⟩
                case measure => simp [intOf]; omega
          · obtain rfl : i = m.length := by omega
            go_wp2
            go_round
            case rel => exact ⟨j + 1, r', q', by omega, by go_num, by rw [HR.out]; rfl, rfl, by rw [HR.out, HT.out.1, ← HJ.out.1], by rw [HT.out.2, HQ.out, HJ.out.2, List.take_length]⟩
            case measure => simp [intOf]; omega
    · obtain rfl : j = l.length := by omega
      have e1 := HJ.out.1
      have e2 := HJ.out.2
      rw [List.take_length] at e1 e2
      rw [HL.out.1] at e1
      subst e1
      have E2 : Hid (y = true → q = true) := fun hh => by rw [e2]; exact HL.out.2 hh
      clear e2 HJ HL
      cases y with
      | true =>
        obtain rfl := E2.out rfl
        go_wp2_with fail
        refine (five_any _).mono ?_
        rintro z w3 ⟨rfl, hb⟩
        have HB3 : Hid (Below w'.heap.size w' w3) := HB2.out.trans (hb.mono HB2.out.size)
        clear hb
        go_wp2
        go_ret
        exact ⟨rfl, HB3.out⟩
      | false =>
        go_wp2_with fail
        refine (five_any _).mono ?_
        rintro z w3 ⟨rfl, hb⟩
        have HB3 : Hid (Below w'.heap.size w' w3) := HB2.out.trans (hb.mono HB2.out.size)
        clear hb
        go_wp2
        go_ret
        exact ⟨rfl, HB3.out⟩

theorem meets_any (n a b : Int) (w : World) : Calls Try.prog 6 #[.int .i64 n, .int .i64 a, .int .i64 b] w fun e w' => e = .returned (.bool true) ∧ Below w.heap.size w w' := by
  obtain ⟨x, e, c1, h1⟩ := enough_ex n a
  obtain ⟨y, g, c2, h2⟩ := enough_ex n b
  rcases h1 with rfl | ⟨rfl, f, k, hf, rfl, hk, hx⟩
  · exact meets_not n _ _ _ _ _ _ w c1 c2 (.inl rfl)
  rcases h2 with rfl | ⟨rfl, f', k', hf', rfl, hk', hy⟩
  · exact meets_not n _ _ _ _ _ _ w c1 c2 (.inr (.inl ⟨rfl, rfl⟩))
  obtain rfl := hf.same hf'
  cases x with
  | false => exact meets_not n _ _ _ _ _ _ w c1 c2 (.inr (.inr ⟨rfl, rfl, rfl⟩))
  | true => exact meets_go n f k k' y w hf hk hk' (by simpa using hx.symm) hy c1 c2

set_option maxRecDepth 100000 in
theorem panelMeets_lifted (os : Os) (started : os.Started) (H : Type) (enc : TypeId × Value → H) :
    ReturnsInHanded {} Try.checked os 6 .any (Rows.panelMeetsSpec.pre6 enc Try.prog Try.f6 Rows.panelMeetsRow.domain false) (Rows.panelMeetsSpec.post enc Try.prog Try.f6 false true false false) := by
  refine returnsInHanded_of_change (C := Try.checked) own started (by kernel_rfl) Try.func6
    (ChangeSpec.witness6 (enc := enc) (C := Try.checked) false ⟨#[], #[.int .i64 0, .int .i64 0, .int .i64 0], []⟩ 8 (by kernel_rfl) (by kernel_rfl) (by kernel_rfl) (by kernel_rfl)) ?_
  intro W base args ds gs before hval0 hW hcnd _
  have hval : ∀ (j : Nat) t v, Try.f6.params[j]? = some t → args[j]? = some v → Value.okWide Try.prog W .any base t v := hval0
  have hW' := hW
  obtain ⟨p, q, hA0, hV, rfl, hfz, hnd⟩ := hW
  have hA : DataW.TrodAll enc Try.prog W 0 (fun _ => true) true Try.f6.params.toList args.toList ds p := hA0
  rw [Try.params6] at hA hval
  obtain ⟨v0, v1, v2, d0, d1, d2, p0, p1, p2, rfl, rfl, rfl, h0, h1, h2⟩ := trodAll_three hA
  obtain ⟨rfl, rfl⟩ := trodVars_none hV
  obtain ⟨a, rfl, rfl, rfl, w0⟩ := open_int Try.underlying3 (hval 0 3 v0 rfl rfl) h0
  obtain ⟨b, rfl, rfl, rfl, w1⟩ := open_int Try.underlying3 (hval 1 3 v1 rfl rfl) h1
  obtain ⟨c, rfl, rfl, rfl, w2⟩ := open_int Try.underlying3 (hval 2 3 v2 rfl rfl) h2
  refine (meets_any a b c W).mono fun e W' ⟨he, hg⟩ => ⟨_, he, ?_⟩
  exact Law.post laidOut (by kernel_rfl) rfl Try.underlying4 hW' rfl rfl hg

theorem panelMeets_holds : Rows.PanelMeetsSaid :=
  OpenClaim.holds_of_wide 6 Try.f6 rfl rfl rfl rfl rfl rfl rfl ⟨rfl, rfl, rfl, rfl, rfl⟩ rfl rfl rfl rfl rfl (by kernel_rfl) Try.func6 (by kernel_rfl)
    (of_decide_eq_true (by kernel_rfl)) (by unfold Func.isWrapper; first | (rw [if_pos (by decide +kernel)]; kernel_rfl) | (rw [if_neg (by decide +kernel)]; exact ⟨rfl, rfl⟩))
    (fun os started H enc _ => panelMeets_lifted os started H enc)
#print axioms panelMeets_holds
end Go.Proofs.Ytoplngccejkkcaa
