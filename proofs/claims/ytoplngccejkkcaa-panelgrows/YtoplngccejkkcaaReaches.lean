/-
  For any int and any slice of ints sextonlaw06.PanelReaches returns true, whatever the memory: the greatest number that enough nodes have. No condition.
-/
import Derived.Test.YtoplngccejkkcaaFive
import Derived.Test.YtoplngccejkkcaaLaw
namespace Go.Proofs.Ytoplngccejkkcaa
open Go.ChangeShapes Go.WideShapes Go.ChangeAt Go.RowKit

theorem refReached_no {n : Int} (v : Value) (w : World) (h : Pn.No n) : Calls Try.prog 22 #[.int .i64 n, v] w fun e w' => e = .returned (.tuple #[.int .i64 0, .int .i64 1]) ∧ w' = w := by
  have H : Hid (Pn.No n) := h
  clear h
  go_enter Try.func22, Try.ntmps22
  go_wp2_with fail
  refine (refFaults_no _ H.out).mono ?_
  rintro e w' ⟨rfl, rfl⟩
  go_wp2
  go_ret2
  exact ⟨rfl, rfl⟩
theorem refReached_len {n f : Int} (ao : Option Addr) (m cap : Nat) (w : World) (h : Pn.Is n f) (hm : ¬ (m : Int) = n) : Calls Try.prog 22 #[.int .i64 n, .slice ao m cap] w fun e w' => e = .returned (.tuple #[.int .i64 0, .int .i64 1]) ∧ w' = w := by
  have H : Hid (Pn.Is n f) := h
  have f0 : ¬ f < 0 := by obtain ⟨k, hk, _, _⟩ := h.nat; omega
  have hm' : ((m : Int) != n) = true := by simpa using hm
  clear h hm
  go_enter Try.func22, Try.ntmps22
  go_wp2_with fail
  refine (refFaults_yes _ H.out).mono ?_
  rintro e w' ⟨rfl, rfl⟩
  go_wp2
  go_ret2
  exact ⟨rfl, rfl⟩
theorem Pn.fit_cases (x : Int) : (Pn.fit x = true ∧ 0 ≤ x ∧ x ≤ 1099511627776) ∨ (Pn.fit x = false ∧ (x < 0 ∨ (¬ x < 0 ∧ 1099511627776 < x))) := by
  unfold Pn.fit
  by_cases h : 0 ≤ x ∧ x ≤ 1099511627776
  · exact .inl ⟨by simpa using h, h⟩
  · exact .inr ⟨by simp only [decide_eq_false_iff_not]; exact h, by omega⟩
theorem Pn.all_take {l : List Int} (h : ∀ j, j < l.length → Pn.fit (l.getD j 0) = true) : (l.any fun x => !Pn.fit x) = false := by
  rw [List.any_eq_false]
  intro x hx
  obtain ⟨i, hi, rfl⟩ := Pn.mem_getD hx
  rw [h i hi]
  decide
set_option maxHeartbeats 1000000 in
theorem refReached_arg {f : Int} (b off cap : Nat) (l : List Int) (w : World) (h : Pn.Is (l.length : Int) f) (_hlc : l.length ≤ cap) (hc : ∀ j, j < l.length → w.cell? ⟨b, off + j, none⟩ = some (.int .i64 (l.getD j 0))) (ha : (l.any fun x => !Pn.fit x) = true) :
    Calls Try.prog 22 #[.int .i64 (l.length : Int), .slice (some ⟨b, off, none⟩) l.length cap] w fun e w' => e = .returned (.tuple #[.int .i64 0, .int .i64 1]) ∧ w' = w := by
  obtain ⟨k, rfl, hn, hk⟩ := h.nat
  have H : Hid (Pn.Is (l.length : Int) k) := h
  have HX : Hid ((∀ j, j < l.length → w.cell? ⟨b, off + j, none⟩ = some (.int .i64 (l.getD j 0))) ∧ (l.any fun x => !Pn.fit x) = true) := ⟨hc, ha⟩
  have f0 : ¬ (k : Int) < 0 := by omega
  have i3 : (l.length : Int) ≤ 7 := by omega
  clear h hc ha hn hk
  go_enter Try.func22, Try.ntmps22
  go_wp2_with fail
  refine (refFaults_yes _ H.out).mono ?_
  rintro e w' ⟨rfl, rfl⟩
  go_wp2
  go_loop [27] (fun t => ∃ j : Nat, j ≤ l.length ∧ t = .int .i64 j ∧ Hid (∀ i, i < j → Pn.fit (l.getD i 0) = true)) (fun t => l.length - (intOf t).toNat)
  case atStart => exact ⟨0, Nat.zero_le _, rfl, fun i hi => by omega⟩
  case round =>
    obtain ⟨j, hj, rfl, HJ⟩ := hrel
    by_cases hlt : j < l.length
    · have c0 := HX.out.1 j hlt
      have hlt' : (j : Int) < (l.length : Int) := by omega
      rcases Pn.fit_cases (l.getD j 0) with ⟨hf, x0, x1⟩ | ⟨hf, hx⟩
      · have HJ' : Hid (∀ i, i < j + 1 → Pn.fit (l.getD i 0) = true) := fun i hi => by
          by_cases e : i = j
          · subst e; exact hf
          · exact HJ.out i (by omega)
        generalize l.getD j 0 = x at *
        have x0' : ¬ x < 0 := by omega
        have x1' : ¬ 1099511627776 < x := by omega
        clear hf
        go_wp2
        go_round
        case rel => exact ⟨j + 1, by omega, by go_num, HJ'⟩
        case measure => simp [intOf]; omega
      · generalize l.getD j 0 = x at *
        clear hf
        rcases hx with hx | ⟨hx0, hx⟩
        all_goals
          go_wp2
          go_ret2
          exact ⟨rfl, rfl⟩
    · obtain rfl : j = l.length := by omega
      have h1 := Pn.all_take HJ.out
      have h2 := HX.out.2
      rw [h1] at h2
      cases h2
set_option maxHeartbeats 2000000 in
theorem refReached_ok {f : Int} (b off cap : Nat) (l : List Int) (w : World) (h : Pn.Is (l.length : Int) f) (_hlc : l.length ≤ cap) (hc : ∀ j, j < l.length → w.cell? ⟨b, off + j, none⟩ = some (.int .i64 (l.getD j 0))) (ha : (l.any fun x => !Pn.fit x) = false) :
    Calls Try.prog 22 #[.int .i64 (l.length : Int), .slice (some ⟨b, off, none⟩) l.length cap] w fun e w' => e = .returned (.tuple #[.int .i64 (Pn.med l f.toNat), .int .i64 0]) ∧ w' = w := by
  obtain ⟨k, rfl, hn, hk⟩ := h.nat
  have hfit : ∀ j, j < l.length → 0 ≤ l.getD j 0 ∧ l.getD j 0 ≤ 1099511627776 := by
    intro j hj
    have := List.any_eq_false.1 ha _ (Pn.getD_mem hj)
    simpa [Pn.fit] using this
  have HE : Hid (Pn.best l k 0 l = Pn.med l k) := Pn.best_med (by omega) (fun x hx => by obtain ⟨i, hi, rfl⟩ := Pn.mem_getD hx; exact (hfit i hi).1)
  have H : Hid (Pn.Is (l.length : Int) k) := h
  have HX : Hid (∀ j, j < l.length → w.cell? ⟨b, off + j, none⟩ = some (.int .i64 (l.getD j 0)) ∧ 0 ≤ l.getD j 0 ∧ l.getD j 0 ≤ 1099511627776) := fun j hj => ⟨hc j hj, hfit j hj⟩
  have f0 : ¬ (k : Int) < 0 := by omega
  have f3 : (k : Int) ≤ 3 := by omega
  have i3 : (l.length : Int) ≤ 7 := by omega
  clear h hc ha hn hk hfit
  go_enter Try.func22, Try.ntmps22
  go_wp2_with fail
  refine (refFaults_yes _ H.out).mono ?_
  rintro e w' ⟨rfl, rfl⟩
  go_wp2
  go_loop [27] (fun t => ∃ j : Nat, j ≤ l.length ∧ t = .int .i64 j) (fun t => l.length - (intOf t).toNat)
  case atStart => exact ⟨0, Nat.zero_le _, rfl⟩
  case round =>
    obtain ⟨j, hj, rfl⟩ := hrel
    by_cases hlt : j < l.length
    · obtain ⟨c0, x0, x1⟩ := HX.out j hlt
      have hlt' : (j : Int) < (l.length : Int) := by omega
      generalize l.getD j 0 = x at *
      have x0' : ¬ x < 0 := by omega
      have x1' : ¬ 1099511627776 < x := by omega
      go_wp2
      go_round
      case rel => exact ⟨j + 1, by omega, by go_num⟩
      case measure => simp [intOf]; omega
    · obtain rfl : j = l.length := by omega
      clear hj
      go_wp2
      go_loop [9, 40] (fun t u => ∃ (j : Nat) (x : Int), j ≤ l.length ∧ u = .int .i64 j ∧ t = .int .i64 x ∧ Hid (x = Pn.best l k 0 (l.take j))) (fun _ u => l.length - (intOf u).toNat)
      case atStart => exact ⟨0, 0, Nat.zero_le _, rfl, rfl, rfl⟩
      case round =>
        obtain ⟨j, x, hj, rfl, rfl, HB⟩ := hrel
        by_cases hlt : j < l.length
        · obtain ⟨c0, x0, x1⟩ := HX.out j hlt
          have hlt' : (j : Int) < (l.length : Int) := by omega
          have HS : Hid (Pn.best l k 0 (l.take (j + 1)) = if k + 1 ≤ l.countP (fun c => decide (l.getD j 0 ≤ c)) ∧ Pn.best l k 0 (l.take j) < l.getD j 0 then l.getD j 0 else Pn.best l k 0 (l.take j)) := by
            rw [List.take_succ_eq_append_getElem hlt]
            have : l[j] = l.getD j 0 := by rw [List.getD_eq_getElem?_getD, List.getElem?_eq_getElem hlt]; rfl
            rw [this]
            exact Pn.best_snoc l k 0 (l.take j) (l.getD j 0)
          generalize l.getD j 0 = y at *
          go_wp2
          go_loop [12, 46] (fun t u => ∃ i : Nat, i ≤ l.length ∧ u = .int .i64 i ∧ t = .int .i64 ((l.take i).countP (fun c => decide (y ≤ c)) : Nat)) (fun _ u => l.length - (intOf u).toNat)
          case atStart => exact ⟨0, Nat.zero_le _, rfl, rfl⟩
          case round =>
            obtain ⟨i, hi, rfl, rfl⟩ := hrel
            by_cases hlt2 : i < l.length
            · obtain ⟨c1, z0, z1⟩ := HX.out i hlt2
              have hlt2' : (i : Int) < (l.length : Int) := by omega
              have HT : Hid _ := Pn.count_take (fun c => decide (y ≤ c)) l i hlt2
              have hle : (l.take i).countP (fun c => decide (y ≤ c)) ≤ i := Nat.le_trans List.countP_le_length (by simp; omega)
              generalize l.getD i 0 = z at *
              generalize (l.take i).countP (fun c => decide (y ≤ c)) = q at *
              have hq : (q : Int) ≤ 7 := by omega
              clear hle
              by_cases hyz : y ≤ z
              · go_wp2
                go_round
                case rel => exact ⟨i + 1, by omega, by go_num, by rw [HT.out]; simp [hyz]⟩
                case measure => simp [intOf]; omega
              · go_wp2
                go_round
                case rel => exact ⟨i + 1, by omega, by go_num, by rw [HT.out]; simp [hyz]⟩
                case measure => simp [intOf]; omega
            · obtain rfl : i = l.length := by omega
              rw [List.take_length]
              generalize l.countP (fun c => decide (y ≤ c)) = q at *
              clear hi
              by_cases hq : (k : Int) + 1 ≤ (q : Int)
              · by_cases hxy : x < y
                · have e := HS.out
                  rw [← HB.out, if_pos ⟨by omega, hxy⟩] at e
                  have E : Hid (Pn.best l k 0 (l.take (j + 1)) = y) := e
                  clear e HS
                  go_wp2
                  go_round
                  case rel => exact ⟨j + 1, y, by omega, by go_num, rfl, E.out.symm⟩
                  case measure => simp [intOf]; omega
                · have e := HS.out
                  rw [← HB.out, if_neg (fun h => hxy h.2)] at e
                  have E : Hid (Pn.best l k 0 (l.take (j + 1)) = x) := e
                  clear e HS
                  go_wp2
                  go_round
                  case rel => exact ⟨j + 1, x, by omega, by go_num, rfl, E.out.symm⟩
                  case measure => simp [intOf]; omega
              · have e := HS.out
                rw [← HB.out, if_neg (fun h => hq (by omega))] at e
                have E : Hid (Pn.best l k 0 (l.take (j + 1)) = x) := e
                clear e HS
                go_wp2
                go_round
                case rel => exact ⟨j + 1, x, by omega, by go_num, rfl, E.out.symm⟩
                case measure => simp [intOf]; omega
        · obtain rfl : j = l.length := by omega
          have e := HB.out
          rw [List.take_length, HE.out] at e
          have E : Hid (x = Pn.med l k) := e
          clear e HB
          go_wp2
          go_ret2
          rw [E.out]
          exact ⟨rfl, rfl⟩

/-- panel's Reached and the document's tell the same. -/
theorem reached_both (n : Int) (v : Value) (l : List Int) (w : World) (hv : IntsAt w v l) : ∃ a e : Int, Calls Try.prog 21 #[.int .i64 n, v] w (fun x w' => x = .returned (.tuple #[.int .i64 a, .int .i64 e]) ∧ Below w.heap.size w w') ∧ (∀ w1, IntsAt w1 v l → Calls Try.prog 22 #[.int .i64 n, v] w1 fun x w' => x = .returned (.tuple #[.int .i64 a, .int .i64 e]) ∧ w' = w1) := by
  rcases Pn.either n with h | ⟨f, h⟩
  · exact ⟨0, 1, (reached_no v w h).mono fun _ _ ⟨he, hw⟩ => ⟨he, by rw [hw]; exact Below.refl _ _⟩, fun w1 _ => refReached_no v w1 h⟩
  have slice : ∃ ao cap, v = .slice ao l.length cap := by
    rcases hv with ⟨ao, cap, rfl, rfl⟩ | ⟨b, off, cap, rfl, _⟩
    · exact ⟨_, _, rfl⟩
    · exact ⟨_, _, rfl⟩
  by_cases hl : (l.length : Int) = n
  · subst hl
    rcases hv with ⟨ao, cap, rfl, rfl⟩ | ⟨b, off, cap, rfl, hB, hp, hlc, hm, hx⟩
    · exfalso
      rcases h with ⟨h, _⟩ | ⟨h, _⟩ | ⟨h, _⟩ | ⟨h, _⟩ <;> simp at h
    · have other : ∀ w1, IntsAt w1 (.slice (some ⟨b, off, none⟩) l.length cap) l → ∀ j, j < l.length → w1.cell? ⟨b, off + j, none⟩ = some (.int .i64 (l.getD j 0)) := by
        intro w1 h1
        rcases h1 with ⟨ao, cap, he, rfl⟩ | ⟨b', off', cap', he, _, _, _, _, hx'⟩
        · intro j hj
          simp at hj
        · simp only [Value.slice.injEq, Option.some.injEq, Addr.mk.injEq, and_true, true_and] at he
          obtain ⟨⟨rfl, rfl⟩, rfl⟩ := he
          exact hx'
      cases ha : (l.any fun x => !Pn.fit x) with
      | true => exact ⟨0, 1, (reached_arg b off cap l w h hx ha).mono fun _ _ ⟨he, q, hw⟩ => ⟨he, by rw [hw]; exact Go.below_drewN (Below.refl _ _) q⟩, fun w1 h1 => refReached_arg b off cap l w1 h hlc (other w1 h1) ha⟩
      | false => exact ⟨_, 0, reached_ok b off cap l w h hB hx ha, fun w1 h1 => refReached_ok b off cap l w1 h hlc (other w1 h1) ha⟩
  · obtain ⟨ao, cap, rfl⟩ := slice
    exact ⟨0, 1, (reached_len ao _ cap w h hl).mono fun _ _ ⟨he, hw⟩ => ⟨he, by rw [hw]; exact Below.refl _ _⟩, fun w1 _ => refReached_len ao _ cap w1 h hl⟩

set_option maxHeartbeats 400000 in
theorem reaches_any (n : Int) (v : Value) (l : List Int) (w : World) (hv : IntsAt w v l) : Calls Try.prog 5 #[.int .i64 n, v] w fun e w' => e = .returned (.bool true) ∧ Below w.heap.size w w' := by
  obtain ⟨a, e, c1, c2⟩ := reached_both n v l w hv
  have C1 : Hid _ := c1
  have C2 : Hid _ := c2
  have HV : Hid (IntsAt w v l) := hv
  clear c1 c2 hv
  go_enter Try.func5, Try.ntmps5
  go_wp2_with fail
  refine Calls.mono C1.out ?_
  rintro x w1 ⟨rfl, hb⟩
  have HB : Hid (Below w.heap.size w w1) := hb
  clear hb
  go_wp2_with fail
  refine Calls.mono (C2.out _ (HV.out.kept HB.out (Nat.le_refl _))) ?_
  rintro x w2 ⟨rfl, rfl⟩
  go_wp2_with fail
  refine (five_any _).mono ?_
  rintro x w3 ⟨rfl, hb⟩
  have HB3 : Hid (Below w.heap.size w w3) := HB.out.trans (hb.mono HB.out.size)
  clear hb
  go_wp2
  go_ret
  exact ⟨rfl, HB3.out⟩

/-- A slice of ints that came in. -/
theorem open_intsAt {H : Type} {enc : TypeId × Value → H} {W : World} {base : Nat} {v : Value} {d : DataW H} {p : List MemPlace} (hv : Value.okWide Try.prog W .any base 35 v) (h : DataW.Trod enc Try.prog W 0 (fun _ => true) true 35 v d p) : ∃ l, IntsAt W v l ∧ ∀ x ∈ l, -9223372036854775808 ≤ x ∧ x ≤ 9223372036854775807 := by
  obtain ⟨a, len, cap, rfl⟩ := okWide_slice Try.underlying35 hv
  obtain ⟨fuel, hf⟩ := h
  rcases open_ints Try.underlying35 Try.underlying3 (by kernel_rfl) (by simpa [Value.cells] using hf) with ⟨hcs, _⟩ | ⟨a', len', cap', zs, hcs, _, hl, hm, hz, _, hcell, hwz⟩
  · simp at hcs
    obtain ⟨rfl, rfl, rfl⟩ := hcs
    exact ⟨[], .inl ⟨_, _, rfl, rfl⟩, fun x hx => by cases hx⟩
  · simp at hcs
    obtain ⟨rfl, rfl, rfl⟩ := hcs
    have hz' : zs.length = cap := by simpa using hz
    have hwf : ∀ x ∈ zs, -9223372036854775808 ≤ x ∧ x ≤ 9223372036854775807 := fun x hx => by
      have := hwz x hx
      simp [Lit.wf, IntKind.min, IntKind.max, IntKind.signed, IntKind.bits] at this
      omega
    refine ⟨zs.take len, ?_, fun x hx => hwf x (List.mem_of_mem_take hx)⟩
    have hlen : (zs.take len).length = len := by simp; omega
    by_cases hp : 0 < len
    · have h0 := hcell 0 (by omega)
      obtain ⟨b, off, spot⟩ := a'
      have hspot : spot = none := by simpa [Addr.add] using World.cell?_spot h0
      subst hspot
      refine .inr ⟨b, off, cap, by rw [hlen], World.block_lt_of_cell? _ _ h0, by omega, by omega, hm, fun i hi => ?_⟩
      have := hcell i (by omega)
      rw [WideShapes.add_plain] at this
      rw [this]
      simp only [List.getD_eq_getElem?_getD]
      rw [List.getElem?_take_of_lt (by omega)]
    · have : len = 0 := by omega
      subst this
      exact .inl ⟨_, _, rfl, by simp⟩

set_option maxRecDepth 100000 in
theorem panelReaches_lifted (os : Os) (started : os.Started) (H : Type) (enc : TypeId × Value → H) :
    ReturnsInHanded {} Try.checked os 5 .any (Rows.panelReachesSpec.pre6 enc Try.prog Try.f5 Rows.panelReachesRow.domain false) (Rows.panelReachesSpec.post enc Try.prog Try.f5 false true false false) := by
  refine returnsInHanded_of_change (C := Try.checked) own started (by kernel_rfl) Try.func5
    (ChangeSpec.witness6 (enc := enc) (C := Try.checked) false ⟨#[], #[.int .i64 0, .slice none 0 0], []⟩ 8 (by kernel_rfl) (by kernel_rfl) (by kernel_rfl) (by kernel_rfl)) ?_
  intro W base args ds gs before hval0 hW hcnd _
  have hval : ∀ (j : Nat) t v, Try.f5.params[j]? = some t → args[j]? = some v → Value.okWide Try.prog W .any base t v := hval0
  have hW' := hW
  obtain ⟨p, q, hA0, hV, rfl, hfz, hnd⟩ := hW
  have hA : DataW.TrodAll enc Try.prog W 0 (fun _ => true) true Try.f5.params.toList args.toList ds p := hA0
  rw [Try.params5] at hA hval
  obtain ⟨v0, v1, d0, d1, p0, p1, rfl, rfl, rfl, h0, h1⟩ := trodAll_two hA
  obtain ⟨rfl, rfl⟩ := trodVars_none hV
  obtain ⟨a, rfl, rfl, rfl, w0⟩ := open_int Try.underlying3 (hval 0 3 v0 rfl rfl) h0
  obtain ⟨l, hl, _⟩ := open_intsAt (hval 1 35 v1 rfl rfl) h1
  refine (reaches_any a v1 l W hl).mono fun e W' ⟨he, hg⟩ => ⟨_, he, ?_⟩
  exact Law.post laidOut (by kernel_rfl) rfl Try.underlying4 hW' rfl rfl hg

theorem panelReaches_holds : Rows.PanelReachesSaid :=
  OpenClaim.holds_of_wide 5 Try.f5 rfl rfl rfl rfl rfl rfl rfl ⟨rfl, rfl, rfl, rfl, rfl⟩ rfl rfl rfl rfl rfl (by kernel_rfl) Try.func5 (by kernel_rfl)
    (of_decide_eq_true (by kernel_rfl)) (by unfold Func.isWrapper; first | (rw [if_pos (by decide +kernel)]; kernel_rfl) | (rw [if_neg (by decide +kernel)]; exact ⟨rfl, rfl⟩))
    (fun os started H enc _ => panelReaches_lifted os started H enc)
#print axioms panelReaches_holds
end Go.Proofs.Ytoplngccejkkcaa
