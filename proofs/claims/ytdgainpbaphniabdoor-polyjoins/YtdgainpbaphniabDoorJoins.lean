/-
  For any three ints and any two strings sextonlaw02.PolyJoins returns true, whatever the memory that holds the table halves as the program's text lays it: poly.Join answers what the document's Join answers, and from two sums and a length the sum of the two texts. No other condition.
-/
import Derived.Test.YtdgainpbaphniabDoorCards
import Derived.Test.YtdgainpbaphniabDoorTie
import Derived.Test.YtdgainpbaphniabDoorLaw
import Derived.Test.YtdgainpbaphniabDoorFrame
import Derived.Test.YtdgainpbaphniabDoorJoinB
import Derived.Test.YtdgainpbaphniabDoorGuard
import Derived.SizedLaws
import Derived.Lib.SmallJoins
namespace Go.Proofs.YtdgainpbaphniabDoor
open Go.ChangeShapes Go.WideShapes Go.ChangeAt Go.RowKit Go.Joins
open Go.ChangeMaps (open_string)

def badB (a b n : Int) : Bool := decide ((a < 0 ∨ 4294967295 < a) ∨ (b < 0 ∨ 4294967295 < b) ∨ n < 0 ∨ 1048576 < n)
def jOut (a b n : Int) : Int := if badB a b n then 0 else (Pl.joinOf a.toNat b.toNat n.toNat : Nat)
def jErr (a b n : Int) : Int := if badB a b n then 1 else 0
theorem join_any (a b n : Int) (w : World) : Calls Tryd.prog 12 #[.int .i64 a, .int .i64 b, .int .i64 n] w fun e w' => e = .returned (.tuple #[.int .i64 (jOut a b n), .int .i64 (jErr a b n)]) ∧ w' = w := by
  cases hb : badB a b n with
  | true =>
    have h0 : decide ((a < 0 ∨ 4294967295 < a) ∨ (b < 0 ∨ 4294967295 < b) ∨ n < 0 ∨ 1048576 < n) = true := hb
    have h1 := of_decide_eq_true h0
    have h : JoinBad a b n := h1
    have := join_bad a b n w h
    rwa [show jOut a b n = 0 from by simp [jOut, hb], show jErr a b n = 1 from by simp [jErr, hb]]
  | false =>
    have h0 : decide ((a < 0 ∨ 4294967295 < a) ∨ (b < 0 ∨ 4294967295 < b) ∨ n < 0 ∨ 1048576 < n) = false := hb
    have h := of_decide_eq_false h0
    obtain ⟨x, rfl⟩ := Int.eq_ofNat_of_zero_le (show 0 ≤ a by omega)
    obtain ⟨y, rfl⟩ := Int.eq_ofNat_of_zero_le (show 0 ≤ b by omega)
    obtain ⟨m, rfl⟩ := Int.eq_ofNat_of_zero_le (show 0 ≤ n by omega)
    have := join_good x y m w (by omega) (by omega) (by omega)
    rwa [show jOut x y m = (Pl.joinOf x y m : Nat) from by simp [jOut, hb], show jErr x y m = 0 from by simp [jErr, hb]]
theorem refJoin_any (a b n : Int) (w : World) : Calls Tryd.prog 13 #[.int .i64 a, .int .i64 b, .int .i64 n] w fun e w' => e = .returned (.tuple #[.int .i64 (jOut a b n), .int .i64 (jErr a b n)]) ∧ w' = w := by
  cases hb : badB a b n with
  | true =>
    have h0 : decide ((a < 0 ∨ 4294967295 < a) ∨ (b < 0 ∨ 4294967295 < b) ∨ n < 0 ∨ 1048576 < n) = true := hb
    have h1 := of_decide_eq_true h0
    have h : JoinBad a b n := h1
    have := refJoin_bad a b n w h
    rwa [show jOut a b n = 0 from by simp [jOut, hb], show jErr a b n = 1 from by simp [jErr, hb]]
  | false =>
    have h0 : decide ((a < 0 ∨ 4294967295 < a) ∨ (b < 0 ∨ 4294967295 < b) ∨ n < 0 ∨ 1048576 < n) = false := hb
    have h := of_decide_eq_false h0
    obtain ⟨x, rfl⟩ := Int.eq_ofNat_of_zero_le (show 0 ≤ a by omega)
    obtain ⟨y, rfl⟩ := Int.eq_ofNat_of_zero_le (show 0 ≤ b by omega)
    obtain ⟨m, rfl⟩ := Int.eq_ofNat_of_zero_le (show 0 ≤ n by omega)
    have := refJoin_good x y m w (by omega) (by omega) (by omega)
    rwa [show jOut x y m = (Pl.joinOf x y m : Nat) from by simp [jOut, hb], show jErr x y m = 0 from by simp [jErr, hb]]

theorem append_data (s t : ByteArray) : (s ++ t).data.toList = s.data.toList ++ t.data.toList := by
  rw [ByteArray.data_append, Array.toList_append]

set_option maxHeartbeats 4000000 in
theorem joins_law (a b n : Int) (s t : ByteArray) (w : World) (hs : s.size ≤ 140737488351232) (ht : t.size ≤ 140737488351232) (hT : Tab w) :
    Calls Tryd.prog 5 #[.agg #[.int .i64 a, .int .i64 b, .int .i64 n], .string s, .string t] w fun e w' => e = .returned (.bool true) ∧ Below w.heap.size w w' := by
  have HS : Hid (s.size ≤ maxLen ∧ t.size ≤ maxLen ∧ (s ++ t).size ≤ maxLen) := by
    refine ⟨?_, ?_, ?_⟩ <;> unfold maxLen
    · omega
    · omega
    · rw [ByteArray.size_append]; omega
  have HL : Hid (Pl.crc s.data.toList < 4294967296 ∧ Pl.crc t.data.toList < 4294967296) := ⟨Pl.crc_lt _, Pl.crc_lt _⟩
  obtain ⟨d, hd⟩ : ∃ d, Pl.crc (s ++ t).data.toList = d := ⟨_, rfl⟩
  have HD : Hid (Pl.crc (s ++ t).data.toList = d) := hd
  clear hd
  by_cases c1 : 65536 < n
  · by_cases c2 : n ≤ 1048576
    · have hbW : Below w.heap.size w (w.alloc (.cells #[.int .i64 a, .int .i64 b, .int .i64 65536] 32)) := (Below.refl _ _).alloc (Nat.le_refl _) _
      have HTW : Hid (Tab (w.alloc (.cells #[.int .i64 a, .int .i64 b, .int .i64 65536] 32))) := hT.below hbW
      obtain ⟨x, hx⟩ : ∃ x, jOut a b 65536 = x := ⟨_, rfl⟩
      obtain ⟨f, hf⟩ : ∃ f, jErr a b 65536 = f := ⟨_, rfl⟩
      have HX : Hid (jOut a b 65536 = x ∧ jErr a b 65536 = f) := ⟨hx, hf⟩
      clear hx hf hT
      by_cases htl : 65536 < t.size
      · go_enter Tryd.func5, Tryd.ntmps5
        go_wp2_with fail
        refine (join_any a b 65536 _).mono ?_
        rintro e w1 ⟨rfl, rfl⟩
        rw [HX.out.1, HX.out.2]
        go_wp2_with fail
        refine (refJoin_any a b 65536 _).mono ?_
        rintro e w1 ⟨rfl, rfl⟩
        rw [HX.out.1, HX.out.2]
        go_wp2_with fail
        refine (nine_any _ HTW.out).mono ?_
        rintro e w1 ⟨rfl, rfl⟩
        go_wp2
        go_ret
        exact ⟨rfl, hbW⟩
      · have HJ : Hid (Pl.joinOf (Pl.crc s.data.toList) (Pl.crc t.data.toList) t.size = d) := by
          have := Pl.join_crc s.data.toList t.data.toList
          rw [← append_data, HD.out, Array.length_toList] at this
          exact this
        have HN : Hid (t.size ≤ 1048576) := by show _ ≤ _; omega
        go_enter Tryd.func5, Tryd.ntmps5
        go_wp2_with fail
        refine (join_any a b 65536 _).mono ?_
        rintro e w1 ⟨rfl, rfl⟩
        rw [HX.out.1, HX.out.2]
        go_wp2_with fail
        refine (refJoin_any a b 65536 _).mono ?_
        rintro e w1 ⟨rfl, rfl⟩
        rw [HX.out.1, HX.out.2]
        go_wp2_with fail
        refine (sum_any s _ HS.out.1 HTW.out).mono ?_
        rintro e w1 ⟨rfl, rfl⟩
        go_wp2_with fail
        refine (sum_any t _ HS.out.2.1 HTW.out).mono ?_
        rintro e w1 ⟨rfl, rfl⟩
        go_wp2_with fail
        refine (join_good _ _ t.size _ HL.out.1 HL.out.2 HN.out).mono ?_
        rintro e w1 ⟨rfl, rfl⟩
        rw [HJ.out]
        generalize Pl.crc s.data.toList = cs at *
        generalize Pl.crc t.data.toList = ct at *
        have hst : s.size + t.size ≤ 9223372036854775807 := by omega
        go_wp2_with fail
        refine (sum_any (s ++ t) _ HS.out.2.2 HTW.out).mono ?_
        rintro e w1 ⟨rfl, rfl⟩
        rw [HD.out]
        go_wp2_with fail
        refine (nine_any _ HTW.out).mono ?_
        rintro e w1 ⟨rfl, rfl⟩
        go_wp2
        go_ret
        exact ⟨rfl, hbW⟩
    · have c3 : decide (n ≤ 1048576) = false := by simp [c2]
      have hbW : Below w.heap.size w (w.alloc (.cells #[.int .i64 a, .int .i64 b, .int .i64 n] 32)) := (Below.refl _ _).alloc (Nat.le_refl _) _
      have HTW : Hid (Tab (w.alloc (.cells #[.int .i64 a, .int .i64 b, .int .i64 n] 32))) := hT.below hbW
      obtain ⟨x, hx⟩ : ∃ x, jOut a b n = x := ⟨_, rfl⟩
      obtain ⟨f, hf⟩ : ∃ f, jErr a b n = f := ⟨_, rfl⟩
      have HX : Hid (jOut a b n = x ∧ jErr a b n = f) := ⟨hx, hf⟩
      clear hx hf hT
      by_cases htl : 65536 < t.size
      · go_enter Tryd.func5, Tryd.ntmps5
        go_wp2_with fail
        refine (join_any a b n _).mono ?_
        rintro e w1 ⟨rfl, rfl⟩
        rw [HX.out.1, HX.out.2]
        go_wp2_with fail
        refine (refJoin_any a b n _).mono ?_
        rintro e w1 ⟨rfl, rfl⟩
        rw [HX.out.1, HX.out.2]
        go_wp2_with fail
        refine (nine_any _ HTW.out).mono ?_
        rintro e w1 ⟨rfl, rfl⟩
        go_wp2
        go_ret
        exact ⟨rfl, hbW⟩
      · have HJ : Hid (Pl.joinOf (Pl.crc s.data.toList) (Pl.crc t.data.toList) t.size = d) := by
          have := Pl.join_crc s.data.toList t.data.toList
          rw [← append_data, HD.out, Array.length_toList] at this
          exact this
        have HN : Hid (t.size ≤ 1048576) := by show _ ≤ _; omega
        go_enter Tryd.func5, Tryd.ntmps5
        go_wp2_with fail
        refine (join_any a b n _).mono ?_
        rintro e w1 ⟨rfl, rfl⟩
        rw [HX.out.1, HX.out.2]
        go_wp2_with fail
        refine (refJoin_any a b n _).mono ?_
        rintro e w1 ⟨rfl, rfl⟩
        rw [HX.out.1, HX.out.2]
        go_wp2_with fail
        refine (sum_any s _ HS.out.1 HTW.out).mono ?_
        rintro e w1 ⟨rfl, rfl⟩
        go_wp2_with fail
        refine (sum_any t _ HS.out.2.1 HTW.out).mono ?_
        rintro e w1 ⟨rfl, rfl⟩
        go_wp2_with fail
        refine (join_good _ _ t.size _ HL.out.1 HL.out.2 HN.out).mono ?_
        rintro e w1 ⟨rfl, rfl⟩
        rw [HJ.out]
        generalize Pl.crc s.data.toList = cs at *
        generalize Pl.crc t.data.toList = ct at *
        have hst : s.size + t.size ≤ 9223372036854775807 := by omega
        go_wp2_with fail
        refine (sum_any (s ++ t) _ HS.out.2.2 HTW.out).mono ?_
        rintro e w1 ⟨rfl, rfl⟩
        rw [HD.out]
        go_wp2_with fail
        refine (nine_any _ HTW.out).mono ?_
        rintro e w1 ⟨rfl, rfl⟩
        go_wp2
        go_ret
        exact ⟨rfl, hbW⟩
  · have hbW : Below w.heap.size w (w.alloc (.cells #[.int .i64 a, .int .i64 b, .int .i64 n] 32)) := (Below.refl _ _).alloc (Nat.le_refl _) _
    have HTW : Hid (Tab (w.alloc (.cells #[.int .i64 a, .int .i64 b, .int .i64 n] 32))) := hT.below hbW
    obtain ⟨x, hx⟩ : ∃ x, jOut a b n = x := ⟨_, rfl⟩
    obtain ⟨f, hf⟩ : ∃ f, jErr a b n = f := ⟨_, rfl⟩
    have HX : Hid (jOut a b n = x ∧ jErr a b n = f) := ⟨hx, hf⟩
    clear hx hf hT
    by_cases htl : 65536 < t.size
    · go_enter Tryd.func5, Tryd.ntmps5
      go_wp2_with fail
      refine (join_any a b n _).mono ?_
      rintro e w1 ⟨rfl, rfl⟩
      rw [HX.out.1, HX.out.2]
      go_wp2_with fail
      refine (refJoin_any a b n _).mono ?_
      rintro e w1 ⟨rfl, rfl⟩
      rw [HX.out.1, HX.out.2]
      go_wp2_with fail
      refine (nine_any _ HTW.out).mono ?_
      rintro e w1 ⟨rfl, rfl⟩
      go_wp2
      go_ret
      exact ⟨rfl, hbW⟩
    · have HJ : Hid (Pl.joinOf (Pl.crc s.data.toList) (Pl.crc t.data.toList) t.size = d) := by
        have := Pl.join_crc s.data.toList t.data.toList
        rw [← append_data, HD.out, Array.length_toList] at this
        exact this
      have HN : Hid (t.size ≤ 1048576) := by show _ ≤ _; omega
      go_enter Tryd.func5, Tryd.ntmps5
      go_wp2_with fail
      refine (join_any a b n _).mono ?_
      rintro e w1 ⟨rfl, rfl⟩
      rw [HX.out.1, HX.out.2]
      go_wp2_with fail
      refine (refJoin_any a b n _).mono ?_
      rintro e w1 ⟨rfl, rfl⟩
      rw [HX.out.1, HX.out.2]
      go_wp2_with fail
      refine (sum_any s _ HS.out.1 HTW.out).mono ?_
      rintro e w1 ⟨rfl, rfl⟩
      go_wp2_with fail
      refine (sum_any t _ HS.out.2.1 HTW.out).mono ?_
      rintro e w1 ⟨rfl, rfl⟩
      go_wp2_with fail
      refine (join_good _ _ t.size _ HL.out.1 HL.out.2 HN.out).mono ?_
      rintro e w1 ⟨rfl, rfl⟩
      rw [HJ.out]
      generalize Pl.crc s.data.toList = cs at *
      generalize Pl.crc t.data.toList = ct at *
      have hst : s.size + t.size ≤ 9223372036854775807 := by omega
      go_wp2_with fail
      refine (sum_any (s ++ t) _ HS.out.2.2 HTW.out).mono ?_
      rintro e w1 ⟨rfl, rfl⟩
      rw [HD.out]
      go_wp2_with fail
      refine (nine_any _ HTW.out).mono ?_
      rintro e w1 ⟨rfl, rfl⟩
      go_wp2
      go_ret
      exact ⟨rfl, hbW⟩

theorem cells32 : Tryd.prog.cellsOf 32 = 3 := by kernel_rfl

theorem joins_contract (H : Type) (enc : TypeId × Value → H) (W : World) (base : Nat) (args : Array Value) (ds gs : List (DataW H)) (before : List MemPlace)
    (hval : ∀ (j : Nat) t v, Tryd.f5.params[j]? = some t → args[j]? = some v → Value.okWide Tryd.prog W .any base t v)
    (hW : DataW.Whole enc Tryd.prog Tryd.f5.params.toList Rows.polyJoinsSpec.vars false W args.toList ds gs before)
    (hsz : (DataW.weightsEach Tryd.prog (Tryd.f5.params.toList ++ Rows.polyJoinsSpec.plain.varTypes Tryd.prog) (ds ++ gs)).all (· ≤ reachBytes) = true)
    (hL : laidMetH Tryd.prog Rows.polyJoinsRow.laid W) :
    Calls Tryd.prog 5 args W fun e W' => ∃ v, e = .returned v ∧ Rows.polyJoinsSpec.post enc Tryd.prog Tryd.f5 false true false false W args v W' := by
  have hW' := hW
  obtain ⟨p, q, hA0, hV, rfl, hfz, hnd⟩ := hW
  have hA : DataW.TrodAll enc Tryd.prog W 0 (fun _ => true) true Tryd.f5.params.toList args.toList ds p := hA0
  rw [Tryd.params5] at hA hval hsz
  obtain ⟨v0, v1, v2, d0, d1, d2, p0, p1, p2, rfl, rfl, rfl, h0, h1, h2⟩ := trodAll_three hA
  obtain ⟨rfl, rfl⟩ := trodVars_none hV
  obtain ⟨c0, c1, c2, y0, y1, y2, m, rfl, rfl, rfl, g0, g1, g2⟩ := open_agg3 Tryd.underlying32 (by kernel_rfl) cells32 (hval 0 32 v0 rfl rfl) h0
  obtain ⟨a, e0, rfl, wa⟩ := DataW.trod_int Tryd.underlying3 g0
  obtain ⟨b, e1, rfl, wb⟩ := DataW.trod_int Tryd.underlying3 g1
  obtain ⟨n, e2, rfl, wn⟩ := DataW.trod_int Tryd.underlying3 g2
  simp only [List.cons.injEq, and_true] at e0 e1 e2
  subst e0 e1 e2
  obtain ⟨s, rfl, rfl, rfl, hs⟩ := open_string Tryd.underlying9 (hval 1 9 v1 rfl rfl) h1
  obtain ⟨t, rfl, rfl, rfl, ht⟩ := open_string Tryd.underlying9 (hval 2 9 v2 rfl rfl) h2
  have zs : s.size ≤ 140737488351232 := by
    have := sized_string hsz (j := 1) rfl rfl
    rw [Array.length_toList] at this
    exact this
  have zt : t.size ≤ 140737488351232 := by
    have := sized_string hsz (j := 2) rfl rfl
    rw [Array.length_toList] at this
    exact this
  refine (joins_law a b n s t W zs zt (table hL)).mono fun e W' ⟨he, hg⟩ => ⟨_, he, ?_⟩
  exact Law.post laidOut (by kernel_rfl) rfl Tryd.underlying4 hW' rfl rfl hg

theorem joins_laid_met (os : Os) : laidMet Tryd.prog Rows.polyJoinsRow.laid ((laidWorld Tryd.prog os).forCall (fun _ _ => 0) ⟨#[], #[.agg #[.int .i64 0, .int .i64 0, .int .i64 0], .string .empty, .string .empty], []⟩).memory :=
  laidMet_of_run' 8 (by kernel_rfl) (by kernel_rfl)
theorem joins_reads (os : Os) {H : Type} (enc : TypeId × Value → H) : ∃ places, DataW.whole enc Tryd.prog ((laidWorld Tryd.prog os).forCall (fun _ _ => 0) ⟨#[], #[.agg #[.int .i64 0, .int .i64 0, .int .i64 0], .string .empty, .string .empty], []⟩).memory Tryd.f5.params.toList Rows.polyJoinsSpec.vars false #[Value.agg #[.int .i64 0, .int .i64 0, .int .i64 0], Value.string .empty, Value.string .empty].toList 8 = some ([.agg [.lit (.int .i64 0), .lit (.int .i64 0), .lit (.int .i64 0)], .lit (.string []), .lit (.string [])], [], places) :=
  ⟨[], by kernel_rfl⟩

set_option maxRecDepth 100000 in
theorem joins_lifted (os : Os) (started : os.Started) (H : Type) (enc : TypeId × Value → H) (F : Stop.Interp) :
    ReturnsInHanded {} Tryd.checked os 5 .any ((OpenSpec.ofChange Rows.polyJoinsSpec).preRow enc Tryd.prog Tryd.f5 Rows.polyJoinsRow.domain false Rows.polyJoinsRow.laid) (((OpenSpec.ofChange Rows.polyJoinsSpec).at F).post enc Tryd.prog Tryd.f5 false true false false) := by
  obtain ⟨places, hx⟩ := joins_reads os enc
  refine returnsInHanded_of_row (C := Tryd.checked) (s := OpenSpec.ofChange Rows.polyJoinsSpec) own started (by kernel_rfl) Tryd.func5
    (witness_row_at (enc := enc) (C := Tryd.checked) false (laidWorld Tryd.prog os) #[.agg #[.int .i64 0, .int .i64 0, .int .i64 0], .string .empty, .string .empty] rfl (by kernel_rfl) (by kernel_rfl) (by kernel_rfl)
      (OpenSpec.preRow_of_cond 8 hx (by kernel_rfl) (fun k hk => by cases hk) (by kernel_rfl) (joins_laid_met os))) ?_
  intro W base args ds gs before hval hW _ _ hsz hL _ _
  exact joins_contract H enc W base args ds gs before hval hW hsz hL

theorem joins_said : Rows.PolyJoinsSaid :=
  OpenClaim.holds_of_cond 5 Tryd.f5 rfl rfl rfl rfl rfl rfl rfl ⟨rfl, rfl, rfl, rfl, rfl⟩ rfl rfl rfl rfl rfl (by kernel_rfl) Tryd.func5 (by kernel_rfl)
    (of_decide_eq_true (by kernel_rfl)) (by unfold Func.isWrapper; first | (rw [if_pos (by decide +kernel)]; kernel_rfl) | (rw [if_neg (by decide +kernel)]; exact ⟨rfl, rfl⟩))
    (fun os started H enc _ F => by rw [OpenClaim.pre_eq_preRow]; exact joins_lifted os started H enc F)

theorem joins_plain (f : FuncId) (fn : Func) (hf : Tryd.pinned.checked.prog.funcNamed "sexton/sextonlaw02.PolyJoins" = some f) (hfn : Tryd.pinned.checked.prog.funcs[f]? = some fn) :
    false = Tryd.pinned.checked.prog.looks [] ∧ ∀ (j : Nat) t, fn.params[j]? = some t → Tryd.pinned.checked.prog.wantsStandIn t = false := by
  obtain rfl : f = 5 := Option.some.inj ((show Tryd.prog.funcNamed "sexton/sextonlaw02.PolyJoins" = some 5 by kernel_rfl).symm.trans hf) |>.symm
  obtain rfl : fn = Tryd.f5 := (Option.some.inj (Tryd.func5.symm.trans hfn)).symm
  refine ⟨by kernel_rfl, fun j t ht => ?_⟩
  rw [Tryd.params5] at ht
  have hm : t = 32 ∨ t = 9 := by simpa using Array.mem_of_getElem? ht
  rcases hm with rfl | rfl
  · exact (show Tryd.prog.wantsStandIn 32 = false by kernel_rfl)
  · exact (show Tryd.prog.wantsStandIn 9 = false by kernel_rfl)

theorem polyJoins_card : Rows.PolyJoinsCardSaid :=
  Claim7.holds_tied_plain_at .later [] _ _ _ _ joins_said (fun _ h => by cases h) (by kernel_rfl) (fun _ h => by cases h) polyJoins_row_tie rfl ⟨rfl, rfl⟩ (by kernel_rfl) rfl joins_plain (by kernel_rfl)
#print axioms polyJoins_card
end Go.Proofs.YtdgainpbaphniabDoor
