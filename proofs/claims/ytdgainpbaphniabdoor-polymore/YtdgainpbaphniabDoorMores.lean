/-
  For any int and any two strings sextonlaw02.PolyMore returns true, whatever the memory that holds the table halves as the program's text lays it: poly.More answers what the document's More answers, and from a text's sum the sum of the text with more behind it. No other condition.
-/
import Derived.Test.YtdgainpbaphniabDoorCards
import Derived.Test.YtdgainpbaphniabDoorTie
import Derived.Test.YtdgainpbaphniabDoorLaw
import Derived.Test.YtdgainpbaphniabDoorFrame
import Derived.Test.YtdgainpbaphniabDoorMore
import Derived.SizedLaws
namespace Go.Proofs.YtdgainpbaphniabDoor
open Go.ChangeShapes Go.WideShapes Go.ChangeAt Go.RowKit
open Go.ChangeMaps (open_string)

/-- The last steps, the same on both ways. -/
theorem append_data (s t : ByteArray) : (s ++ t).data.toList = s.data.toList ++ t.data.toList := by
  rw [ByteArray.data_append, Array.toList_append]

set_option maxHeartbeats 1000000 in
theorem more_law (n : Int) (s t : ByteArray) (w : World) (hs : s.size ≤ 140737488351232) (ht : t.size ≤ 140737488351232) (hT : Tab w) :
    Calls Tryd.prog 4 #[.int .i64 n, .string s, .string t] w fun e w' => e = .returned (.bool true) ∧ Below w.heap.size w w' := by
  have HT : Hid (Tab w) := hT
  have HS : Hid (s.size ≤ maxLen ∧ t.size ≤ maxLen ∧ (s ++ t).size ≤ maxLen) := by
    refine ⟨?_, ?_, ?_⟩ <;> unfold maxLen
    · omega
    · omega
    · rw [ByteArray.size_append]; omega
  obtain ⟨d, hd⟩ : ∃ d, Pl.crc (s ++ t).data.toList = d := ⟨_, rfl⟩
  have HC : Hid (Pl.moreOf (Pl.crc s.data.toList) t.data.toList = d) := by
    show _ = _
    rw [← hd, append_data, Pl.moreOf_crc]
  have HD : Hid (Pl.crc (s ++ t).data.toList = d) := hd
  clear hd
  have HL : Hid (Pl.crc s.data.toList < 4294967296) := Pl.crc_lt _
  clear hT
  by_cases hb : n < 0 ∨ 4294967295 < n
  · have HB : Hid (n < 0 ∨ 4294967295 < n) := hb
    clear hb
    go_enter Tryd.func4, Tryd.ntmps4
    go_wp2_with fail
    refine (more_bad n s _ HB.out).mono ?_
    rintro e w1 ⟨rfl, rfl⟩
    go_wp2_with fail
    refine (refMore_bad n s _ HB.out).mono ?_
    rintro e w1 ⟨rfl, rfl⟩
    go_wp2_with fail
    refine (sum_any s _ HS.out.1 HT.out).mono ?_
    rintro e w1 ⟨rfl, rfl⟩
    go_wp2_with fail
    refine (more_good _ t _ HL.out HS.out.2.1 HT.out).mono ?_
    rintro e w1 ⟨rfl, rfl⟩
    rw [HC.out]
    generalize Pl.crc s.data.toList = c at *
    have hst : s.size + t.size ≤ 9223372036854775807 := by omega
    go_wp2_with fail
    refine (refSum_any (s ++ t) _ HS.out.2.2).mono ?_
    rintro e w1 ⟨rfl, rfl⟩
    rw [HD.out]
    go_wp2_with fail
    refine (nine_any _ HT.out).mono ?_
    rintro e w1 ⟨rfl, rfl⟩
    go_wp2
    go_ret
    exact ⟨rfl, Below.refl _ _⟩
  · obtain ⟨r, rfl⟩ := Int.eq_ofNat_of_zero_le (show 0 ≤ n by omega)
    have HR : Hid (r < 4294967296) := by show r < _; omega
    clear hb
    go_enter Tryd.func4, Tryd.ntmps4
    go_wp2_with fail
    refine (more_good r s _ HR.out HS.out.1 HT.out).mono ?_
    rintro e w1 ⟨rfl, rfl⟩
    go_wp2_with fail
    refine (refMore_good r s _ HR.out HS.out.1).mono ?_
    rintro e w1 ⟨rfl, rfl⟩
    generalize Pl.moreOf r s.data.toList = m
    go_wp2_with fail
    refine (sum_any s _ HS.out.1 HT.out).mono ?_
    rintro e w1 ⟨rfl, rfl⟩
    go_wp2_with fail
    refine (more_good _ t _ HL.out HS.out.2.1 HT.out).mono ?_
    rintro e w1 ⟨rfl, rfl⟩
    rw [HC.out]
    generalize Pl.crc s.data.toList = c at *
    have hst : s.size + t.size ≤ 9223372036854775807 := by omega
    go_wp2_with fail
    refine (refSum_any (s ++ t) _ HS.out.2.2).mono ?_
    rintro e w1 ⟨rfl, rfl⟩
    rw [HD.out]
    go_wp2_with fail
    refine (nine_any _ HT.out).mono ?_
    rintro e w1 ⟨rfl, rfl⟩
    go_wp2
    go_ret
    exact ⟨rfl, Below.refl _ _⟩

theorem more_contract (H : Type) (enc : TypeId × Value → H) (W : World) (base : Nat) (args : Array Value) (ds gs : List (DataW H)) (before : List MemPlace)
    (hval : ∀ (j : Nat) t v, Tryd.f4.params[j]? = some t → args[j]? = some v → Value.okWide Tryd.prog W .any base t v)
    (hW : DataW.Whole enc Tryd.prog Tryd.f4.params.toList Rows.polyMoreSpec.vars false W args.toList ds gs before)
    (hsz : (DataW.weightsEach Tryd.prog (Tryd.f4.params.toList ++ Rows.polyMoreSpec.plain.varTypes Tryd.prog) (ds ++ gs)).all (· ≤ reachBytes) = true)
    (hL : laidMetH Tryd.prog Rows.polyMoreRow.laid W) :
    Calls Tryd.prog 4 args W fun e W' => ∃ v, e = .returned v ∧ Rows.polyMoreSpec.post enc Tryd.prog Tryd.f4 false true false false W args v W' := by
  have hW' := hW
  obtain ⟨p, q, hA0, hV, rfl, hfz, hnd⟩ := hW
  have hA : DataW.TrodAll enc Tryd.prog W 0 (fun _ => true) true Tryd.f4.params.toList args.toList ds p := hA0
  rw [Tryd.params4] at hA hval hsz
  obtain ⟨v0, v1, v2, d0, d1, d2, p0, p1, p2, rfl, rfl, rfl, h0, h1, h2⟩ := trodAll_three hA
  obtain ⟨rfl, rfl⟩ := trodVars_none hV
  obtain ⟨a, rfl, rfl, rfl, wa⟩ := open_int Tryd.underlying3 (hval 0 3 v0 rfl rfl) h0
  obtain ⟨s, rfl, rfl, rfl, hs⟩ := open_string Tryd.underlying9 (hval 1 9 v1 rfl rfl) h1
  obtain ⟨t, rfl, rfl, rfl, ht⟩ := open_string Tryd.underlying9 (hval 2 9 v2 rfl rfl) h2
  have zs : s.size ≤ 140737488351232 := by
    have := sized_string hsz (j := 1) rfl rfl
    rw [Array.length_toList] at this
    exact this
  have zt : t.size ≤ 140737488351232 := by
    have := sized_string hsz (j := 2) rfl rfl
    rw [Array.length_toList] at this
    exact this
  refine (more_law a s t W zs zt (table hL)).mono fun e W' ⟨he, hg⟩ => ⟨_, he, ?_⟩
  exact Law.post laidOut (by kernel_rfl) rfl Tryd.underlying4 hW' rfl rfl hg

theorem more_laid_met (os : Os) : laidMet Tryd.prog Rows.polyMoreRow.laid ((laidWorld Tryd.prog os).forCall (fun _ _ => 0) ⟨#[], #[.int .i64 0, .string .empty, .string .empty], []⟩).memory :=
  laidMet_of_run' 8 (by kernel_rfl) (by kernel_rfl)
theorem more_reads (os : Os) {H : Type} (enc : TypeId × Value → H) : ∃ places, DataW.whole enc Tryd.prog ((laidWorld Tryd.prog os).forCall (fun _ _ => 0) ⟨#[], #[.int .i64 0, .string .empty, .string .empty], []⟩).memory Tryd.f4.params.toList Rows.polyMoreSpec.vars false #[Value.int .i64 0, Value.string .empty, Value.string .empty].toList 8 = some ([.lit (.int .i64 0), .lit (.string []), .lit (.string [])], [], places) :=
  ⟨[], by kernel_rfl⟩

set_option maxRecDepth 100000 in
theorem more_lifted (os : Os) (started : os.Started) (H : Type) (enc : TypeId × Value → H) (F : Stop.Interp) :
    ReturnsInHanded {} Tryd.checked os 4 .any ((OpenSpec.ofChange Rows.polyMoreSpec).preRow enc Tryd.prog Tryd.f4 Rows.polyMoreRow.domain false Rows.polyMoreRow.laid) (((OpenSpec.ofChange Rows.polyMoreSpec).at F).post enc Tryd.prog Tryd.f4 false true false false) := by
  obtain ⟨places, hx⟩ := more_reads os enc
  refine returnsInHanded_of_row (C := Tryd.checked) (s := OpenSpec.ofChange Rows.polyMoreSpec) own started (by kernel_rfl) Tryd.func4
    (witness_row_at (enc := enc) (C := Tryd.checked) false (laidWorld Tryd.prog os) #[.int .i64 0, .string .empty, .string .empty] rfl (by kernel_rfl) (by kernel_rfl) (by kernel_rfl)
      (OpenSpec.preRow_of_cond 8 hx (by kernel_rfl) (fun k hk => by cases hk) (by kernel_rfl) (more_laid_met os))) ?_
  intro W base args ds gs before hval hW _ _ hsz hL _ _
  exact more_contract H enc W base args ds gs before hval hW hsz hL

theorem more_said : Rows.PolyMoreSaid :=
  OpenClaim.holds_of_cond 4 Tryd.f4 rfl rfl rfl rfl rfl rfl rfl ⟨rfl, rfl, rfl, rfl, rfl⟩ rfl rfl rfl rfl rfl (by kernel_rfl) Tryd.func4 (by kernel_rfl)
    (of_decide_eq_true (by kernel_rfl)) (by unfold Func.isWrapper; first | (rw [if_pos (by decide +kernel)]; kernel_rfl) | (rw [if_neg (by decide +kernel)]; exact ⟨rfl, rfl⟩))
    (fun os started H enc _ F => by rw [OpenClaim.pre_eq_preRow]; exact more_lifted os started H enc F)

theorem more_plain (f : FuncId) (fn : Func) (hf : Tryd.pinned.checked.prog.funcNamed "sexton/sextonlaw02.PolyMore" = some f) (hfn : Tryd.pinned.checked.prog.funcs[f]? = some fn) :
    false = Tryd.pinned.checked.prog.looks [] ∧ ∀ (j : Nat) t, fn.params[j]? = some t → Tryd.pinned.checked.prog.wantsStandIn t = false := by
  obtain rfl : f = 4 := Option.some.inj ((show Tryd.prog.funcNamed "sexton/sextonlaw02.PolyMore" = some 4 by kernel_rfl).symm.trans hf) |>.symm
  obtain rfl : fn = Tryd.f4 := (Option.some.inj (Tryd.func4.symm.trans hfn)).symm
  refine ⟨by kernel_rfl, fun j t ht => ?_⟩
  rw [Tryd.params4] at ht
  have hm : t = 3 ∨ t = 9 := by simpa using Array.mem_of_getElem? ht
  rcases hm with rfl | rfl
  · exact (show Tryd.prog.wantsStandIn 3 = false by kernel_rfl)
  · exact (show Tryd.prog.wantsStandIn 9 = false by kernel_rfl)

theorem polyMore_card : Rows.PolyMoreCardSaid :=
  Claim7.holds_tied_plain_at .later [] _ _ _ _ more_said (fun _ h => by cases h) (by kernel_rfl) (fun _ h => by cases h) polyMore_row_tie rfl ⟨rfl, rfl⟩ (by kernel_rfl) rfl more_plain (by kernel_rfl)
#print axioms polyMore_card
end Go.Proofs.YtdgainpbaphniabDoor
