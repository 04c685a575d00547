/-
  For any runs sextonlaw08.BlobOne returns true, whatever the memory: whatever is written one behind the other, the runs are those of the bytes that are there. No condition.
-/
import Derived.Test.YtkkaendfcfkbbabLaw
import Derived.Test.YtkkaendfcfkbbabSame
import Derived.Test.YtkkaendfcfkbbabMade
import Derived.Test.YtkkaendfcfkbbabFive
namespace Go.Proofs.Ytkkaendfcfkbbab
open Go.ChangeShapes Go.WideShapes Go.ChangeAt Go.RowKit Go.Deep

theorem ok_of_right {l : List Bl.R} (h : Bl.right (-1) l) : okFields l := fun x hx => by
  have := Bl.right_mem h x hx
  unfold Bl.rend at this
  have h3 : x.1 + (x.2.size : Int) ≤ 1048576 := this.2.2
  exact ⟨by omega, by unfold maxLen; omega⟩
theorem ones_bd {l : List Bl.R} (h : Bl.right (-1) l) : (Bl.ones l).length ≤ 4194304 ∧ ∀ q ∈ Bl.ones l, 0 ≤ q.1 ∧ q.1 ≤ 1048576 := by
  refine ⟨?_, fun q hq => ?_⟩
  · have h2 : (Bl.total l : Int) + l.length ≤ 1048576 - -1 := Bl.right_total h (by decide)
    rw [Bl.ones_length]
    omega
  · have := Bl.right_filter h q hq
    have h3 : q.1 < (1048576 : Int) := this.2
    exact ⟨this.1, by omega⟩
theorem Bl.err_zero {l : List Bl.R} (h : Bl.right (-1) l) : Bl.err l = 0 := by unfold Bl.err; rw [if_pos h]
theorem FieldsAt.up {w w' : World} {v : Value} {l : List Bl.R} (h : FieldsAt w.heap.size w v l) (hb : Below w.heap.size w w') : FieldsAt w'.heap.size w' v l := (h.below hb (Nat.le_refl _)).mono hb.size

set_option maxHeartbeats 2000000 in
theorem one_law (v : Value) (l : List Bl.R) (w : World) (hv : FieldsAt w.heap.size w v l) (hok : okFields l) :
    Calls Try.prog 3 #[v] w fun e w' => e = .returned (.bool true) ∧ Below w.heap.size w w' := by
  have HV : Hid (FieldsAt w.heap.size w v l) := hv
  obtain ⟨ao, cap, rfl, hm, hx⟩ := hv.open
  clear hv
  unfold maxLen at hm
  obtain ⟨n, hn⟩ : ∃ n, l.length = n := ⟨_, rfl⟩
  rw [hn] at hm hx HV ⊢
  have HN : Hid (l.length = n) := hn
  have HX : Hid (∀ j, j < n → ∃ b off, ao = some ⟨b, off, none⟩ ∧ b < w.heap.size ∧ w.cell? ⟨b, off + j * 2, none⟩ = some (.int .i64 (l.getD j (0, .empty)).1) ∧ w.cell? ⟨b, off + j * 2 + 1, none⟩ = some (.string (l.getD j (0, .empty)).2)) := hx
  have HO : Hid (okFields l) := hok
  clear hn hx hok
  go_enter Try.func3, Try.ntmps3
  go_wp2_with fail
  refine (heavy_any _ l _ _ HV.out).mono ?_
  rintro e w1 ⟨b, rfl, hb1⟩
  have HB1 : Hid (Below w.heap.size w w1) := hb1
  clear hb1
  cases b with
  | true =>
    go_wp2_with fail
    refine (five_any _).mono ?_
    rintro e w2 ⟨rfl, hb2⟩
    have HB2 : Hid (Below w.heap.size w w2) := HB1.out.trans (hb2.mono HB1.out.size)
    clear hb2
    go_wp2
    go_ret
    exact ⟨rfl, HB2.out⟩
  | false =>
    by_cases h60 : (60 : Int) < (n : Int)
    · go_wp2_with fail
      refine (five_any _).mono ?_
      rintro e w2 ⟨rfl, hb2⟩
      have HB2 : Hid (Below w.heap.size w w2) := HB1.out.trans (hb2.mono HB1.out.size)
      clear hb2
      go_wp2
      go_ret
      exact ⟨rfl, HB2.out⟩
    · go_wp2
      go_loopw [3, 18] (fun h i wr => ∃ (k : Nat) (H : List Bl.R), k ≤ n ∧ i = .int .i64 k ∧ Bl.right (-1) H ∧ FieldsAt wr.heap.size wr h H ∧ Below w.heap.size w wr) (fun _ i _ => n - (intOf i).toNat)
      case atStart => exact ⟨0, [], Nat.zero_le _, rfl, trivial, .inl ⟨_, _, rfl, rfl⟩, HB1.out⟩
      case round =>
        obtain ⟨k, H, hk, rfl, hr, hF, hbl⟩ := hrel
        have hsz := hbl.size
        have HR : Hid (Bl.right (-1) H) := hr
        have HF : Hid (FieldsAt wr.heap.size wr u3 H) := hF
        have HBL : Hid (Below w.heap.size w wr) := hbl
        clear hr hF
        by_cases hlt : k < n
        · obtain ⟨b, off, rfl, hB, c0, c1⟩ := HX.out k hlt
          have hk' : k < l.length := by rw [HN.out]; exact hlt
          have hof := HO.out.at hk'
          rw [← hbl.cell (p := ⟨b, off + k * 2, none⟩) hB] at c0
          rw [← hbl.cell (p := ⟨b, off + k * 2 + 1, none⟩) hB] at c1
          generalize l.getD k (0, .empty) = x at c0 c1 hof
          obtain ⟨xa, xs⟩ := x
          simp only at c0 c1 hof
          have HS : Hid (xs.size ≤ maxLen) := hof.2
          clear hof
          have hlt' : (k : Int) < (n : Int) := by omega
          have HF1 : Hid (FieldsAt (wr.alloc (BR xa xs)).heap.size (wr.alloc (BR xa xs)) u3 H) := HF.out.up ((Below.refl _ _).alloc (Nat.le_refl _) _)
          have HB3 : Hid (Below w.heap.size w (wr.alloc (BR xa xs))) := hbl.alloc hsz _
          clear hbl
          go_wp2_with fail
          refine (write_any _ H xa xs _ HF1.out (ok_of_right HR.out) HS.out).mono ?_
          rintro e w2 ⟨r, rfl, hown, hb2⟩
          have HB4 : Hid (Below w.heap.size w w2) := HB3.out.trans (hb2.mono HB3.out.size)
          have HF2 : Hid (FieldsAt w2.heap.size w2 u3 H) := HF1.out.up hb2
          have HF3 : Hid (FieldsAt w2.heap.size w2 r (Bl.wOut H xa xs)) := FieldsAt.of_own hown
          clear hb2 hown
          by_cases he : Bl.wErr H xa xs = 0
          · have HE : Hid (Bl.wErr H xa xs = 0) := he
            obtain ⟨_, e1, e2⟩ := Bl.wErr_ok he
            have HR2 : Hid (Bl.right (-1) (Bl.wOut H xa xs)) := by
              show Bl.right (-1) (Bl.wOut H xa xs)
              unfold Bl.wOut
              rw [if_pos he]
              exact Bl.write_right HR.out e1 e2
            clear he e1 e2
            rw [HE.out]
            go_wp2
            go_roundw
            case rel => exact ⟨k + 1, _, by omega, by go_num, HR2.out, HF3.out, HB4.out⟩
            case measure => simp [intOf]; omega
          · obtain ⟨y, hy⟩ : ∃ y, Bl.wErr H xa xs = y := ⟨_, rfl⟩
            rw [hy] at he ⊢
            have he' : (y == 0) = false := beq_eq_false_iff_ne.2 he
            clear hy he
            go_wp2
            go_roundw
            case rel => exact ⟨k + 1, H, by omega, by go_num, HR.out, HF2.out, HB4.out⟩
            case measure => simp [intOf]; omega
        · obtain rfl : k = n := by omega
          clear hbl
          go_wp2_with fail
          refine (check_any _ H _ HF.out (ok_of_right HR.out)).mono ?_
          rintro e w2 ⟨rfl, hb2⟩
          rw [Bl.err_zero HR.out]
          have HF2 : Hid (FieldsAt w2.heap.size w2 u3 H) := HF.out.up hb2
          have HB2 : Hid (Below w.heap.size w w2) := HBL.out.trans (hb2.mono HBL.out.size)
          clear hb2
          go_wp2_with fail
          refine (ones_any _ H _ HF2.out HR.out).mono ?_
          rintro e w3 ⟨r3, rfl, hown3, hb3⟩
          have HF3 : Hid (FieldsAt w3.heap.size w3 u3 H) := HF2.out.up hb3
          have HB3 : Hid (Below w.heap.size w w3) := HB2.out.trans (hb3.mono HB2.out.size)
          have HO3 : Hid (OnesAt w3.heap.size w3 r3 (Bl.ones H)) := OnesAt.of_own hown3
          clear hb3 hown3
          go_wp2_with fail
          refine (made_any _ (Bl.ones H) _ HO3.out (ones_bd HR.out).1 (ones_bd HR.out).2).mono ?_
          rintro e w4 ⟨r4, rfl, hown4, hb4⟩
          rw [Bl.made_ones HR.out] at hown4
          have HF4 : Hid (FieldsAt w4.heap.size w4 u3 H ∧ FieldsAt w4.heap.size w4 r4 H) := ⟨HF3.out.up hb4, FieldsAt.of_own hown4⟩
          have HB4 : Hid (Below w.heap.size w w4) := HB3.out.trans (hb4.mono HB3.out.size)
          clear hb4 hown4
          go_wp2_with fail
          refine (runs_same _ _ H _ HF4.out.1 HF4.out.2).mono ?_
          rintro e w5 ⟨rfl, hb5⟩
          have HB5 : Hid (Below w.heap.size w w5) := HB4.out.trans (hb5.mono HB4.out.size)
          clear hb5
          go_wp2_with fail
          refine (five_any _).mono ?_
          rintro e w6 ⟨rfl, hb6⟩
          have HB6 : Hid (Below w.heap.size w w6) := HB5.out.trans (hb6.mono HB5.out.size)
          clear hb6
          go_wp2
          go_ret
          exact ⟨rfl, HB6.out⟩

set_option maxRecDepth 100000 in
theorem blobOne_lifted (os : Os) (started : os.Started) (H : Type) (enc : TypeId × Value → H) :
    ReturnsInHanded {} Try.checked os 3 .any (Rows.blobOneSpec.pre6 enc Try.prog Try.f3 Rows.blobOneRow.domain false) (Rows.blobOneSpec.post enc Try.prog Try.f3 false true false false) := by
  refine returnsInHanded_of_change (C := Try.checked) own started (by kernel_rfl) Try.func3
    (ChangeSpec.witness6 (enc := enc) (C := Try.checked) false ⟨#[], #[.slice none 0 0], []⟩ 8 (by kernel_rfl) (by kernel_rfl) (by kernel_rfl) (by kernel_rfl)) ?_
  intro W base args ds gs before hval0 hW hcnd _
  have hval : ∀ (j : Nat) t v, Try.f3.params[j]? = some t → args[j]? = some v → Value.okWide Try.prog W .any base t v := hval0
  have hW' := hW
  have hlt : ∀ x ∈ before, x.block < W.heap.size := fun x hx => by simpa using hW'.lt x hx
  obtain ⟨p, q, hA0, hV, rfl, hfz, hnd⟩ := hW
  have hA : DataW.TrodAll enc Try.prog W 0 (fun _ => true) true Try.f3.params.toList args.toList ds p := hA0
  rw [Try.params3] at hA hval
  obtain ⟨v0, d0, rfl, rfl, h0⟩ := trodAll_one hA
  obtain ⟨rfl, rfl⟩ := trodVars_none hV
  obtain ⟨l, sp, hF, hok, _⟩ := open_fields Try.underlying22 Try.underlying26 (by kernel_rfl) rfl rfl (by kernel_rfl) (by kernel_rfl) Try.underlying3 Try.underlying9 (okWide_slice Try.underlying22 (hval 0 22 v0 rfl rfl)) (fun x hx => hlt x (by simpa using hx)) h0
  refine (one_law v0 l W hF hok).mono fun e W' ⟨he, hg⟩ => ⟨_, he, ?_⟩
  exact Law.post laidOut (by kernel_rfl) rfl Try.underlying4 hW' rfl rfl hg

theorem blobOne_holds : Rows.BlobOneSaid :=
  OpenClaim.holds_of_wide 3 Try.f3 rfl rfl rfl rfl rfl rfl rfl ⟨rfl, rfl, rfl, rfl, rfl⟩ rfl rfl rfl rfl rfl (by kernel_rfl) Try.func3 (by kernel_rfl)
    (of_decide_eq_true (by kernel_rfl)) (by unfold Func.isWrapper; first | (rw [if_pos (by decide +kernel)]; kernel_rfl) | (rw [if_neg (by decide +kernel)]; exact ⟨rfl, rfl⟩))
    (fun os started H enc _ => blobOne_lifted os started H enc)
#print axioms blobOne_holds
end Go.Proofs.Ytkkaendfcfkbbab
