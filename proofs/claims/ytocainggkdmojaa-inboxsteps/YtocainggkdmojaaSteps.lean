/-
  InboxSteps: for every int and every list of steps the call answers true, and the arguments read as before: every inbox, step by step: what is put, what is taken, how many there are. No condition.
-/
import Derived.Test.YtocainggkdmojaaIDoes
namespace Go.Proofs.Ytocainggkdmojaa
open Go.Conc Go.ChangeShapes Go.WideShapes Go.ChangeAt Go.RowKit Go.Deep
open Go.ChangeMaps (open_string)
theorem does_any (t : Int) (s : ByteArray) (n B cu cn A room : Nat) (cl : Bool) (U N : List ByteArray) (w : World) (h : Bo n w B cu cn A room cl U N) (hr : room ≤ 256) : Calls Try.prog 9 #[.pointer (some ⟨B, 0, none⟩), .pointer (some ⟨A, 0, none⟩), .agg #[.int .i64 t, .string s]] w fun e w' => e = .returned (.bool true) ∧ ∃ cl' U' N', Bo n w' B cu cn A room cl' U' N' ∧ Below n w w' := by
  by_cases h0 : t = 0
  · subst h0
    exact (does_putf s n B cu cn A room cl U N w h hr).mono fun e w' ⟨a, b⟩ => ⟨a, _, _, _, b⟩
  by_cases h1 : t = 1
  · subst h1
    exact (does_putt s n B cu cn A room cl U N w h hr).mono fun e w' ⟨a, b⟩ => ⟨a, _, _, _, b⟩
  by_cases h2 : t = 2
  · subst h2
    exact (does_take s n B cu cn A room cl U N w h hr).mono fun e w' ⟨a, b⟩ => ⟨a, _, _, _, b⟩
  by_cases h3 : t = 3
  · subst h3
    exact (does_drain s n B cu cn A room cl U N w h hr).mono fun e w' ⟨a, b⟩ => ⟨a, _, _, _, b⟩
  by_cases h4 : t = 4
  · subst h4
    exact (does_close s n B cu cn A room cl U N w h hr).mono fun e w' ⟨a, b⟩ => ⟨a, _, _, _, b⟩
  exact (does_look t h0 h1 h2 h3 h4 s n B cu cn A room cl U N w h hr).mono fun e w' ⟨a, b⟩ => ⟨a, _, _, _, b⟩
set_option maxRecDepth 100000 in
set_option maxHeartbeats 4000000 in
theorem steps_any (x : Int) (v : Value) (l : List (Int × ByteArray)) (w : World) (hv : AtW EP w v l) : Calls Try.prog 3 #[.int .i64 x, v] w fun e w' => e = .returned (.bool true) ∧ Below w.heap.size w w' := by
  obtain ⟨ao, ca, rfl, hm, hx⟩ := hv.open
  unfold maxLen at hm
  obtain ⟨n, hn⟩ : ∃ n, l.length = n := ⟨_, rfl⟩
  rw [hn] at hm ⊢
  have HX : Hid (∀ wr, Below w.heap.size w wr → ∀ j, j < n → ∃ t s b off, ao = some ⟨b, off, none⟩ ∧ wr.cell? ⟨b, off + j * 2, none⟩ = some (.int .i64 t) ∧ wr.cell? ⟨b, off + j * 2 + 1, none⟩ = some (.string s)) := fun wr hb j hj => by
    have hj' : j < l.length := by omega
    obtain ⟨b, off, e1, -, h1, c1⟩ := hx j l[j] (List.getElem?_eq_getElem hj')
    exact ⟨_, _, b, off, e1, (hb.cell (p := ⟨b, off + j * 2, none⟩) h1).trans (c1 0 _ rfl), (hb.cell (p := ⟨b, off + j * 2 + 1, none⟩) h1).trans (c1 1 _ rfl)⟩
  clear hn hx hv
  by_cases hbad : x < 1 ∨ 256 < x
  · have HB1 : Hid (Calls Try.prog 6 #[.int .i64 x] w fun e w' => e = .returned (.tuple #[.pointer none, .int .i64 1]) ∧ w' = w) := new_bad x w hbad
    have HB2 : Hid (∀ V : World, Calls Try.prog 7 #[.int .i64 x] V fun e w' => e = .returned (.tuple #[.pointer none, .int .i64 1]) ∧ w' = V) := fun V => rnew_bad x V hbad
    clear hbad
    go_enter Try.func3, Try.ntmps3
    go_wp2_with fail
    refine HB1.out.mono ?_
    rintro e w1 ⟨rfl, hw1⟩
    have HW1 : Hid (w1 = w) := hw1
    clear hw1
    go_wp2_with fail
    refine (HB2.out _).mono ?_
    rintro e w2 ⟨rfl, hw2⟩
    have HW2 : Hid (w2 = w) := hw2.trans HW1.out
    clear hw2
    go_wp2_with fail
    refine (two_any _).mono ?_
    rintro e w3 ⟨rfl, hb3⟩
    rw [HW2.out] at hb3
    have HB3 : Hid (Below w.heap.size w w3) := hb3
    clear hb3
    go_wp2
    go_ret
    exact ⟨rfl, HB3.out⟩
  obtain ⟨room, rfl⟩ := Int.eq_ofNat_of_zero_le (show 0 ≤ x by omega)
  have hroom : room ≤ 256 := by omega
  obtain ⟨B, hB⟩ : ∃ B, w.heap.size + 2 = B := ⟨_, rfl⟩
  have HN : Hid (Calls Try.prog 6 #[.int .i64 (room : Int)] w fun e w' => ∃ cu cn, e = .returned (.tuple #[.pointer (some ⟨B, 0, none⟩), .int .i64 0]) ∧ In w' B cu cn room false [] [] ∧ w.heap.size ≤ cu ∧ w.heap.size ≤ cn ∧ Below w.heap.size w w') := by rw [← hB]; exact new_ok room w (by omega) (by omega)
  have HRN : Hid (∀ V : World, Calls Try.prog 7 #[.int .i64 (room : Int)] V fun e w' => e = .returned (.tuple #[.pointer (some ⟨V.heap.size, 0, none⟩), .int .i64 0]) ∧ w' = V.alloc (BR room (.slice none 0 0) (.slice none 0 0) false)) := fun V => rnew_ok room V (by omega) (by omega)
  have HBW : Hid (w.heap.size ≤ B) := by show _ ≤ _; omega
  clear hB hbad
  go_enter Try.func3, Try.ntmps3
  go_wp2_with fail
  refine HN.out.mono ?_
  rintro e w1 ⟨cu, cn, rfl, hin, hu, hnn, hb⟩
  have H1 : Hid (In w1 B cu cn room false [] [] ∧ w.heap.size ≤ cu ∧ w.heap.size ≤ cn ∧ Below w.heap.size w w1) := ⟨hin, hu, hnn, hb⟩
  clear hin hu hnn hb HN
  go_wp2_with fail
  refine (HRN.out _).mono ?_
  rintro e w2 ⟨rfl, hw2⟩
  obtain ⟨A, hA⟩ : ∃ A, w1.heap.size = A := ⟨_, rfl⟩
  have hb12 : Below w1.heap.size w1 w2 := by rw [hw2]; exact below_alloc _ _
  have hsz := H1.out.2.2.2.size
  have H2 : Hid (Bo w.heap.size w2 B cu cn A room false [] [] ∧ Below w.heap.size w w2) := by
    refine ⟨⟨H1.out.1.below hb12, ⟨none, 0, none, 0, ⟨?_, Tw.nil _ _, by omega, by have := hb12.size; omega⟩⟩, ⟨HBW.out, H1.out.2.1, H1.out.2.2.1⟩, Nat.zero_le _, Nat.zero_le _⟩, H1.out.2.2.2.trans (hb12.mono hsz)⟩
    rw [hw2, ← hA]
    exact heap_alloc_new _ _
  rw [hA]
  clear hw2 hA hb12 hsz HRN
  by_cases h600 : (600 : Int) < (n : Int)
  · go_wp2_with fail
    refine (two_any _).mono ?_
    rintro e w3 ⟨rfl, hb3⟩
    have HB3 : Hid (Below w.heap.size w w3) := H2.out.2.trans (hb3.mono H2.out.2.size)
    clear hb3
    go_wp2
    go_ret
    exact ⟨rfl, HB3.out⟩
  go_wp2
  go_loopw [43] (fun i wr => ∃ (k : Nat) (cl : Bool) (U N : List ByteArray), i = .int .i64 k ∧ k ≤ n ∧ Hid (Bo w.heap.size wr B cu cn A room cl U N ∧ Below w.heap.size w wr)) (fun i _ => n - (intOf i).toNat)
  case atStart => exact ⟨0, false, [], [], rfl, Nat.zero_le _, H2.out⟩
  case round =>
    obtain ⟨k, cl, U, N, rfl, hk, HR⟩ := hrel
    clear H2
    by_cases hlt : k < n
    · obtain ⟨t, s, b, off, rfl, f0, f1⟩ := HX.out wr HR.out.2 k hlt
      have hlt' : (k : Int) < (n : Int) := by omega
      have HU : Hid (Bo w.heap.size (wr.alloc (BX t s)) B cu cn A room cl U N ∧ Below w.heap.size w (wr.alloc (BX t s))) := ⟨HR.out.1.up (below_alloc _ _), HR.out.2.trans ((below_alloc _ _).mono HR.out.2.size)⟩
      obtain ⟨x0, x1⟩ := bx_of (heap_alloc_new wr (BX t s))
      go_wp2_with fail
      refine (does_any t s w.heap.size B cu cn A room cl U N _ HU.out.1 hroom).mono ?_
      rintro e w3 ⟨rfl, cl', U', N', hbo, hb3⟩
      have H3 : Hid (Bo w.heap.size w3 B cu cn A room cl' U' N' ∧ Below w.heap.size w w3) := ⟨hbo, HU.out.2.trans hb3⟩
      clear hbo hb3 x0 x1
      go_wp2_with fail
      refine (len_any B cu cn room cl' U' N' _ H3.out.1.inb).mono ?_
      rintro e w4 ⟨rfl, hi4, ho4⟩
      obtain ⟨p1, c1, p2, c2, hrf⟩ := H3.out.1.rf
      have hrf4 := hrf.oth H3.out.1.inb ho4
      have H4 : Hid (Bo w.heap.size w4 B cu cn A room cl' U' N' ∧ Below w.heap.size w w4) := ⟨⟨hi4, ⟨_, _, _, _, hrf4⟩, H3.out.1.lo, H3.out.1.lu, H3.out.1.ln⟩, ho4.below H3.out.2 H3.out.2.size H3.out.1.lo.1 H3.out.1.lo.2.1 H3.out.1.lo.2.2⟩
      obtain ⟨q0, q1, q2, q3⟩ := hrf4.cells
      clear hi4 ho4 hrf hrf4
      have hn1 : ((U'.length : Int) != (U'.length : Int)) = false := by simp
      have hn2 : ((N'.length : Int) != (N'.length : Int)) = false := by simp
      go_wp2
      go_roundw
      case rel => exact ⟨k + 1, cl', U', N', by go_num, by omega, H4.out⟩
      case measure => simp [intOf]; omega
    · obtain rfl : k = n := by omega
      go_wp2_with fail
      refine (two_any _).mono ?_
      rintro e w3 ⟨rfl, hb3⟩
      have HB3 : Hid (Below w.heap.size w w3) := HR.out.2.trans (hb3.mono HR.out.2.size)
      clear hb3
      go_wp2
      go_ret
      exact ⟨rfl, HB3.out⟩

set_option maxRecDepth 100000 in
theorem inboxSteps_lifted (os : Os) (started : os.Started) (H : Type) (enc : TypeId × Value → H) :
    ReturnsInHanded {} Try.checked os 3 .any (Rows.inboxStepsSpec.pre6 enc Try.prog Try.f3 Rows.inboxStepsRow.domain false) (Rows.inboxStepsSpec.post enc Try.prog Try.f3 false true false false) := by
  refine returnsInHanded_of_change (C := Try.checked) own started (by kernel_rfl) Try.func3
    (ChangeSpec.witness6 (enc := enc) (C := Try.checked) false ⟨#[], #[.int .i64 0, .slice none 0 0], []⟩ 8 (by kernel_rfl) (by kernel_rfl) (by kernel_rfl) (by kernel_rfl)) ?_
  intro W base args ds gs before hval0 hW hcnd _
  have hval : ∀ (j : Nat) t v, Try.f3.params[j]? = some t → args[j]? = some v → Value.okWide Try.prog W .any base t v := hval0
  have hW' := hW
  obtain ⟨p, q, hA0, hV, rfl, hfz, hnd⟩ := hW
  have hA : DataW.TrodAll enc Try.prog W 0 (fun _ => true) true Try.f3.params.toList args.toList ds p := hA0
  rw [Try.params3] at hA hval
  obtain ⟨v0, v1, d0, d1, p0, p1, rfl, rfl, rfl, h0, h1⟩ := trodAll_two hA
  obtain ⟨rfl, rfl⟩ := trodVars_none hV
  obtain ⟨x0, rfl, -, -, -⟩ := open_int Try.underlying3 (hval 0 3 v0 rfl rfl) h0
  obtain ⟨x1, hl1⟩ := open_steps (hval 1 22 v1 rfl rfl) h1
  refine (steps_any x0 v1 x1 W hl1).mono fun e W' ⟨he, hg⟩ => ⟨_, he, ?_⟩
  exact Law.post laidOut (by kernel_rfl) rfl Try.underlying4 hW' rfl rfl hg

theorem inboxSteps_holds : Rows.InboxStepsSaid :=
  OpenClaim.holds_of_wide 3 Try.f3 rfl rfl rfl rfl rfl rfl rfl ⟨rfl, rfl, rfl, rfl, rfl⟩ rfl rfl rfl rfl rfl (by kernel_rfl) Try.func3 (by kernel_rfl)
    (of_decide_eq_true (by kernel_rfl)) (by unfold Func.isWrapper; first | (rw [if_pos (by decide +kernel)]; kernel_rfl) | (rw [if_neg (by decide +kernel)]; exact ⟨rfl, rfl⟩))
    (fun os started H enc _ => inboxSteps_lifted os started H enc)
#print axioms inboxSteps_holds
end Go.Proofs.Ytocainggkdmojaa
