/-
  oplog's wrong, fall and refuse: what keeps items from being behind an operation.
-/
import Derived.Test.YtbjcleeiobaegaaAt
import Derived.Test.YtbjcleeiobaegaaShelf
namespace Go.Proofs.Ytbjcleeiobaegaa
open Go.RowKit Go.Shelf

set_option maxHeartbeats 1000000 in
theorem wrong_any (x : Ol.It) (w : World) : Calls Try.prog 38 #[item x] w fun e w' => e = .returned (.bool (!decide (Ol.right x))) ∧ w.grownBy w' none := by
  obtain ⟨a, b, c, d⟩ := x
  by_cases h1 : 0 ≤ a ∧ a ≤ 1099511627776
  · by_cases h2 : 0 ≤ b ∧ b ≤ 1099511627776
    · by_cases h3 : 1 ≤ c ∧ c ≤ 1099511627776
      · have H : Hid ((0 ≤ a ∧ a ≤ 1099511627776) ∧ (0 ≤ b ∧ b ≤ 1099511627776)) := ⟨h1, h2⟩
        have c1 : ¬ c < 1 := by omega
        have c2 : ¬ 1099511627776 < c := by omega
        by_cases h4 : d.size ≤ 4096
        · have e : (!decide (Ol.right (a, b, c, d))) = false := by simp [Ol.right, h1, h2, h3, h4]
          rw [e]
          have E : Hid ((decide (c < 1) || decide (1099511627776 < c) || decide ((4096 : Int) < (d.size : Int))) = false) := show (decide (c < 1) || decide (1099511627776 < c) || decide ((4096 : Int) < (d.size : Int))) = false by simp; omega
          clear h1 h2 h3 h4 e
          unfold item
          simp only
          go_enter Try.func38, Try.ntmps38
          go_wp2_with fail
          refine (fits_yes _ H.out.1.1 H.out.1.2).mono ?_
          rintro e w2 ⟨rfl, rfl⟩
          go_wp2_with fail
          refine (fits_yes _ H.out.2.1 H.out.2.2).mono ?_
          rintro e w2 ⟨rfl, rfl⟩
          go_wp2
          go_ret
          exact ⟨congrArg (fun z => Ending.returned (Value.bool z)) E.out, World.grownBy_alloc _ _ _⟩
        · have e : (!decide (Ol.right (a, b, c, d))) = true := by simp [Ol.right, h4]
          rw [e]
          have d1 : (4096 : Int) < (d.size : Int) := by omega
          clear h1 h2 h3 h4 e
          unfold item
          simp only
          go_enter Try.func38, Try.ntmps38
          go_wp2_with fail
          refine (fits_yes _ H.out.1.1 H.out.1.2).mono ?_
          rintro e w2 ⟨rfl, rfl⟩
          go_wp2_with fail
          refine (fits_yes _ H.out.2.1 H.out.2.2).mono ?_
          rintro e w2 ⟨rfl, rfl⟩
          go_wp2
          go_ret
          exact ⟨rfl, World.grownBy_alloc _ _ _⟩
      · have e : (!decide (Ol.right (a, b, c, d))) = true := by simp [Ol.right, h3]
        rw [e]
        have H : Hid ((0 ≤ a ∧ a ≤ 1099511627776) ∧ (0 ≤ b ∧ b ≤ 1099511627776)) := ⟨h1, h2⟩
        have hc : c < 1 ∨ (¬ c < 1 ∧ 1099511627776 < c) := by omega
        clear h1 h2 h3 e
        unfold item
        simp only
        rcases hc with hc | ⟨hc0, hc⟩
        all_goals
          go_enter Try.func38, Try.ntmps38
          go_wp2_with fail
          refine (fits_yes _ H.out.1.1 H.out.1.2).mono ?_
          rintro e w2 ⟨rfl, rfl⟩
          go_wp2_with fail
          refine (fits_yes _ H.out.2.1 H.out.2.2).mono ?_
          rintro e w2 ⟨rfl, rfl⟩
          go_wp2
          go_ret
          exact ⟨rfl, World.grownBy_alloc _ _ _⟩
    · have e : (!decide (Ol.right (a, b, c, d))) = true := by simp [Ol.right, h2]
      rw [e]
      have H : Hid ((0 ≤ a ∧ a ≤ 1099511627776) ∧ (b < 0 ∨ 1099511627776 < b)) := ⟨h1, by omega⟩
      clear h1 h2 e
      unfold item
      simp only
      go_enter Try.func38, Try.ntmps38
      go_wp2_with fail
      refine (fits_yes _ H.out.1.1 H.out.1.2).mono ?_
      rintro e w2 ⟨rfl, rfl⟩
      go_wp2_with fail
      refine (fits_no _ H.out.2).mono ?_
      rintro e w2 ⟨rfl, rfl⟩
      go_wp2
      go_ret
      exact ⟨rfl, World.grownBy_alloc _ _ _⟩
  · have e : (!decide (Ol.right (a, b, c, d))) = true := by simp [Ol.right, h1]
    rw [e]
    have H : Hid (a < 0 ∨ 1099511627776 < a) := show a < 0 ∨ 1099511627776 < a by omega
    clear h1 e
    unfold item
    simp only
    go_enter Try.func38, Try.ntmps38
    go_wp2_with fail
    refine (fits_no _ H.out).mono ?_
    rintro e w2 ⟨rfl, rfl⟩
    go_wp2
    go_ret
    exact ⟨rfl, World.grownBy_alloc _ _ _⟩
def encIt (x : Ol.It) : List Value := [.int .i64 x.1, .int .i64 x.2.1, .int .i64 x.2.2.1, .string x.2.2.2]
theorem index_empty (ao : Option Addr) (cap : Nat) (f : Value) (w : World) : Calls Try.prog 40 #[.slice ao 0 cap, f] w fun e w' => e = .returned (.int .i64 (-1)) ∧ w' = w := by
  go_enter Try.func40, Try.ntmps40
  go_wp2
  refine wp_loop_rounds 1 ?_
  rw [rounds_succ]
  go_wp2
  go_ret
  exact ⟨rfl, rfl⟩
theorem wrongs_any (v : Value) (l : List Ol.It) (w : World) (h : ItemsAt w v l) : Calls Try.prog 37 #[v, .func (.func 38) #[] #[]] w fun e w' => e = .returned (.bool (l.any fun x => !decide (Ol.right x))) ∧ w.grownBy w' none := by
  rcases h with ⟨ao, cap, rfl, rfl⟩ | ⟨b, off, cap, rfl, hlt, hp, hc, hm, hx⟩
  · go_enter Try.func37, Try.ntmps37
    go_wp2_with fail
    refine (index_empty ao cap _ _).mono ?_
    rintro e w' ⟨rfl, rfl⟩
    go_wp2
    go_ret
    exact ⟨rfl, grown_refl _ _⟩
  · have eg : ∀ args w, (callFunc 38 args).run Try.prog w = .ok (.enter 38 args) w := enters_of Try.func38 (by kernel_rfl) rfl
    have c := AnyQ.slices_ContainsFunc Lay.hasL 4 Try.isAgg32 Try.sizeOf32 encIt (fun _ => rfl) (fun x => !decide (Ol.right x)) 38 #[] eg b off l.length cap l w
      (fun W x hb => (wrong_any x W).mono fun _ _ ⟨he, hg⟩ => ⟨he, hb.grown hg hb.size (fun k hk => by cases hk)⟩) (Nat.le_refl _) (by unfold maxLen at hm; omega) hlt (fun j hj i u hi => by
        obtain ⟨c0, c1, c2, c3⟩ := hx j hj
        have e : l[j]! = l.getD j Ol.d0 := by simp [hj, List.getD]
        rw [e] at hi
        match i, hi with
        | 0, hi => simp [encIt] at hi; rw [← hi]; simpa using c0
        | 1, hi => simp [encIt] at hi; rw [← hi]; simpa using c1
        | 2, hi => simp [encIt] at hi; rw [← hi]; simpa using c2
        | 3, hi => simp [encIt] at hi; rw [← hi]; simpa using c3
        | i + 4, hi => simp [encIt] at hi)
    rw [List.take_length] at c
    refine Calls.mono c ?_
    rintro e w' ⟨he, hb⟩
    exact ⟨he, grown_of_below hb _⟩

set_option maxHeartbeats 1000000 in
theorem fall_any (u : Int) (v : Value) (l : List Ol.It) (w : World) (h : ItemsAt w v l) : Calls Try.prog 39 #[.int .i64 u, v] w fun e w' => e = .returned (.bool (Ol.fall u l)) ∧ w.grownBy w' none := by
  obtain ⟨ao, cap, rfl, hm, hx⟩ := h.open
  unfold maxLen at hm
  have HX : Hid (∀ wr, Below w.heap.size w wr → ∀ j, j < l.length → ∃ b off, ao = some ⟨b, off, none⟩ ∧ b < wr.heap.size ∧ fourAt wr b (off + j * 4) (l.getD j Ol.d0)) := fun wr hw j hj => by
    obtain ⟨b, off, e, hb, hf⟩ := hx j hj
    exact ⟨b, off, e, Nat.lt_of_lt_of_le hb hw.size, hf.below hw hb⟩
  clear hx h
  go_enter Try.func39, Try.ntmps39
  go_wp2
  go_loopw [0, 9] (fun t i wr => ∃ j : Nat, j ≤ l.length ∧ i = .int .i64 j ∧ t = .int .i64 (Ol.view u (l.take j)) ∧ Hid (Ol.fall u (l.take j) = false) ∧ Hid (Below w.heap.size w wr)) (fun _ i _ => l.length - (intOf i).toNat)
  case atStart => exact ⟨0, Nat.zero_le _, rfl, rfl, rfl, Below.refl _ _⟩
  case round =>
    obtain ⟨j, hj, rfl, rfl, HF, HB⟩ := hrel
    by_cases hlt : j < l.length
    · obtain ⟨b, off, rfl, hb, c0, c1, c2, c3⟩ := HX.out wr HB.out j hlt
      have hltI : (j : Int) < (l.length : Int) := by omega
      have HV : Hid (Ol.view u (l.take (j + 1)) = (l.getD j Ol.d0).1) := Ol.view_take u hlt
      have HFT : Hid (Ol.fall u (l.take (j + 1)) = (Ol.fall u (l.take j) || decide ((l.getD j Ol.d0).1 < Ol.view u (l.take j)))) := Ol.fall_take hlt
      have HA : Hid (∀ m, Ol.fall u (l.take m) = true → Ol.fall u l = true) := fun m hm => by
        cases hc : Ol.fall u l with
        | true => rfl
        | false => rw [Ol.fall_prefix hc m] at hm; cases hm
      generalize l.getD j Ol.d0 = x at *
      obtain ⟨x0, x1, x2, x3⟩ := x
      simp only at c0 c1 c2 c3
      have hxv : (x0 < Ol.view u (l.take j)) ∨ ¬ (x0 < Ol.view u (l.take j)) := by omega
      rcases hxv with hxv | hxv
      · have HT : Hid (Ol.fall u l = true) := HA.out (j + 1) (by rw [HFT.out]; simp [hxv])
        generalize Ol.view u (l.take j) = y at *
        clear HV HFT HA HF
        go_wp2
        go_ret
        rw [HT.out]
        exact ⟨rfl, grown_of_below (HB.out.alloc HB.out.size _) _⟩
      · have HF' : Hid (Ol.fall u (l.take (j + 1)) = false) := show Ol.fall u (l.take (j + 1)) = false by rw [HFT.out, HF.out]; simpa using hxv
        generalize Ol.view u (l.take j) = y at *
        clear HFT HA HF
        go_wp2
        go_roundw
        case rel => exact ⟨j + 1, by omega, by go_num, by rw [HV.out], HF', HB.out.alloc HB.out.size _⟩
        case measure => simp [intOf]; omega
    · obtain rfl : j = l.length := by omega
      have e := HF.out
      rw [List.take_length] at e
      have E : Hid (Ol.fall u l = false) := e
      clear e HF
      go_wp2
      go_ret
      rw [E.out]
      exact ⟨rfl, grown_of_below HB.out _⟩
end Go.Proofs.Ytbjcleeiobaegaa
