/-
  The document's Pack, attr's Unpack and the document's Unpack, the small case: what they answer.
-/
import Derived.Test.YtdbfhhkbjlednaaBase
namespace Go.Proofs.Ytdbfhhkbjlednaa
open Go.ChangeShapes Go.WideShapes Go.ChangeAt Go.RowKit Go.Deep

theorem four_cells (w : World) (k l s t : Int) : (w.alloc (BA k l s t)).heap[w.heap.size]? = some (BA k l s t) := heap_alloc_new w _
theorem four_of {w : World} {b : Nat} {k l s t : Int} (h : w.heap[b]? = some (BA k l s t)) : w.cell? ⟨b, 0, none⟩ = some (.int .i64 k) ∧ w.cell? ⟨b, 1, none⟩ = some (.int .i64 l) ∧ w.cell? ⟨b, 2, none⟩ = some (.int .i64 s) ∧ w.cell? ⟨b, 3, none⟩ = some (.int .i64 t) := by
  refine ⟨?_, ?_, ?_, ?_⟩ <;> simp [World.cell?, h]
theorem four_below {w w' : World} {b B : Nat} {k l s t : Int} (h : w.heap[b]? = some (BA k l s t)) (hb : Below B w w') (hB : b < B) : w'.heap[b]? = some (BA k l s t) := (hb.block b hB).trans h
set_option maxHeartbeats 2000000 in
theorem refPack_any (k l s t : Int) (w : World) (hs : s ≤ 9223372036854775807) (ht : t ≤ 9223372036854775807) (hk : k ≤ 9223372036854775807) (hl : l ≤ 9223372036854775807) :
    Calls Try.prog 9 #[VA k l s t] w fun e w' => e = .returned (.tuple #[.string (At.packOut k l s t), .int .i64 (At.packErr k l s t)]) ∧ Below w.heap.size w w' := by
  by_cases hr : At.right k l s t = true
  · have HO : Hid (At.packOut k l s t = Pl.numOut k 1 ++ Pl.numOut l 1 ++ Pl.numOut s 4 ++ Pl.numOut t 6 ∧ At.packErr k l s t = 0) := ⟨by simp [At.packOut, hr], by simp [At.packErr, hr]⟩
    have HR : Hid (At.right k l s t = true) := hr
    have z1 := Pl.numOut_size k 1
    have z2 := Pl.numOut_size l 1
    have z3 := Pl.numOut_size s 4
    have z4 := Pl.numOut_size t 6
    have HB0 : Hid ((w.alloc (BA k l s t)).heap[w.heap.size]? = some (BA k l s t)) := four_cells w k l s t
    clear hr
    go_enter Try.func9, Try.ntmps9
    go_wp2_with fail
    refine (right_any k l s t _).mono ?_
    rintro e w1 ⟨rfl, rfl⟩
    rw [HR.out]
    have HB : Hid (Below w.heap.size w ((w.alloc (BA k l s t)).alloc (BA k l s t)) ∧ ((w.alloc (BA k l s t)).alloc (BA k l s t)).heap[w.heap.size]? = some (BA k l s t) ∧ w.heap.size < ((w.alloc (BA k l s t)).alloc (BA k l s t)).heap.size) :=
      ⟨((Below.refl _ _).alloc (Nat.le_refl _) _).alloc (by simp) _, (Below.heap_alloc _ _ _ (by simp)).trans HB0.out, by simp; omega⟩
    obtain ⟨W, hW⟩ : ∃ W, (w.alloc (BA k l s t)).alloc (BA k l s t) = W := ⟨_, rfl⟩
    rw [hW] at HB
    rw [hW]
    clear hW HB0
    obtain ⟨c0, c1, c2, c3⟩ := four_of HB.out.2.1
    go_wp2_with fail
    refine (refNum_any k 1 _ hk).mono ?_
    rintro e w2 ⟨rfl, hb2⟩
    have HB2 : Hid (Below w.heap.size w w2 ∧ w2.heap[w.heap.size]? = some (BA k l s t) ∧ w.heap.size < w2.heap.size) := ⟨HB.out.1.trans (hb2.mono HB.out.1.size), four_below HB.out.2.1 hb2 HB.out.2.2, Nat.lt_of_lt_of_le HB.out.2.2 hb2.size⟩
    clear c0 c1 c2 c3 hb2 HB
    obtain ⟨c0, c1, c2, c3⟩ := four_of HB2.out.2.1
    generalize Pl.numOut k 1 = n1 at *
    go_wp2_with fail
    refine (refNum_any l 1 _ hl).mono ?_
    rintro e w3 ⟨rfl, hb3⟩
    have HB3 : Hid (Below w.heap.size w w3 ∧ w3.heap[w.heap.size]? = some (BA k l s t) ∧ w.heap.size < w3.heap.size) := ⟨HB2.out.1.trans (hb3.mono HB2.out.1.size), four_below HB2.out.2.1 hb3 HB2.out.2.2, Nat.lt_of_lt_of_le HB2.out.2.2 hb3.size⟩
    clear c0 c1 c2 c3 hb3 HB2
    obtain ⟨c0, c1, c2, c3⟩ := four_of HB3.out.2.1
    generalize Pl.numOut l 1 = n2 at *
    go_wp2_with fail
    refine (refNum_any s 4 _ hs).mono ?_
    rintro e w4 ⟨rfl, hb4⟩
    have HB4 : Hid (Below w.heap.size w w4 ∧ w4.heap[w.heap.size]? = some (BA k l s t) ∧ w.heap.size < w4.heap.size) := ⟨HB3.out.1.trans (hb4.mono HB3.out.1.size), four_below HB3.out.2.1 hb4 HB3.out.2.2, Nat.lt_of_lt_of_le HB3.out.2.2 hb4.size⟩
    clear c0 c1 c2 c3 hb4 HB3
    obtain ⟨c0, c1, c2, c3⟩ := four_of HB4.out.2.1
    generalize Pl.numOut s 4 = n3 at *
    go_wp2_with fail
    refine (refNum_any t 6 _ ht).mono ?_
    rintro e w5 ⟨rfl, hb5⟩
    have HB5 : Hid (Below w.heap.size w w5) := HB4.out.1.trans (hb5.mono HB4.out.1.size)
    clear c0 c1 c2 c3 hb5 HB4
    generalize Pl.numOut t 6 = n4 at *
    go_wp2
    go_ret2
    rw [HO.out.1, HO.out.2]
    exact ⟨rfl, HB5.out⟩
  · have hr' : At.right k l s t = false := by simpa using hr
    have HR : Hid (At.right k l s t = false) := hr'
    have HO : Hid (At.packOut k l s t = ⟨#[]⟩ ∧ At.packErr k l s t = 70) := ⟨by simp [At.packOut, hr'], by simp [At.packErr, hr']⟩
    clear hr hr'
    go_enter Try.func9, Try.ntmps9
    go_wp2_with fail
    refine (right_any k l s t _).mono ?_
    rintro e w1 ⟨rfl, rfl⟩
    rw [HR.out]
    go_wp2
    go_ret2
    rw [HO.out.1, HO.out.2]
    exact ⟨rfl, ((Below.refl _ _).alloc (Nat.le_refl _) _).alloc (by simp) _⟩

/-- What Unpack tells. -/
def At.k (S : ByteArray) : Int := Pl.numVal (S.extract 0 1)
def At.l (S : ByteArray) : Int := Pl.numVal (S.extract 1 2)
def At.s (S : ByteArray) : Int := Pl.numVal (S.extract 2 6)
def At.t (S : ByteArray) : Int := Pl.numVal (S.extract 6 S.size)
def At.unpErr (S : ByteArray) : Int := if S.size = 12 then (if At.right (At.k S) (At.l S) (At.s S) (At.t S) then 0 else 70) else 4
def At.unpOut (S : ByteArray) : Value := if At.unpErr S = 0 then VA (At.k S) (At.l S) (At.s S) (At.t S) else VA 0 0 0 0
abbrev Z4 : Obj := BA 0 0 0 0
set_option maxHeartbeats 2000000 in
theorem unpack_any (S : ByteArray) (w : World) :
    Calls Try.prog 10 #[.string S] w fun e w' => e = .returned (.tuple #[At.unpOut S, .int .i64 (At.unpErr S)]) ∧ Below w.heap.size w w' := by
  by_cases h12 : S.size = 12
  · have e1 : (S.extract 0 1).size ≤ maxLen := by rw [ByteArray.size_extract]; unfold maxLen; omega
    have e2 : (S.extract 1 2).size ≤ maxLen := by rw [ByteArray.size_extract]; unfold maxLen; omega
    have e3 : (S.extract 2 6).size ≤ maxLen := by rw [ByteArray.size_extract]; unfold maxLen; omega
    have e4 : (S.extract 6 12).size ≤ maxLen := by rw [ByteArray.size_extract]; unfold maxLen; omega
    have HE : Hid (((S.extract 0 1).size ≤ maxLen ∧ (S.extract 1 2).size ≤ maxLen) ∧ (S.extract 2 6).size ≤ maxLen ∧ (S.extract 6 12).size ≤ maxLen) := ⟨⟨e1, e2⟩, e3, e4⟩
    clear e1 e2 e3 e4
    have HU : Hid (At.unpErr S = (if At.right (Pl.numVal (S.extract 0 1)) (Pl.numVal (S.extract 1 2)) (Pl.numVal (S.extract 2 6)) (Pl.numVal (S.extract 6 12)) then 0 else 70) ∧ At.unpOut S = if At.unpErr S = 0 then VA (Pl.numVal (S.extract 0 1)) (Pl.numVal (S.extract 1 2)) (Pl.numVal (S.extract 2 6)) (Pl.numVal (S.extract 6 12)) else VA 0 0 0 0) := by
      refine ⟨?_, ?_⟩
      · unfold At.unpErr At.k At.l At.s At.t
        rw [if_pos h12, h12]
      · unfold At.unpOut At.k At.l At.s At.t
        rw [h12]
    go_enter Try.func10, Try.ntmps10
    go_wp2
    go_region_held3 (fun _ => True) (trivial) (first
      | (go_at_call_of 21 (Value.string (S.extract 0 1)); refine (number_s _ _ HE.out.1.1).mono ?_; rintro e w1 ⟨rfl, rfl⟩)
      | (go_at_call_of 21 (Value.string (S.extract 1 2)); refine (number_s _ _ HE.out.1.2).mono ?_; rintro e w1 ⟨rfl, rfl⟩)
      | (go_at_call_of 21 (Value.string (S.extract 2 6)); refine (number_s _ _ HE.out.2.1).mono ?_; rintro e w1 ⟨rfl, rfl⟩)
      | (go_at_call_of 21 (Value.string (S.extract 6 12)); refine (number_s _ _ HE.out.2.2).mono ?_; rintro e w1 ⟨rfl, rfl⟩))
    all_goals
      generalize Pl.numVal (S.extract 0 1) = k at HU ⊢
      generalize Pl.numVal (S.extract 1 2) = l at HU ⊢
      generalize Pl.numVal (S.extract 2 6) = s at HU ⊢
      generalize Pl.numVal (S.extract 6 12) = t at HU ⊢
      by_cases hr : At.right k l s t = true
      · have HR : Hid (At.right k l s t = true) := hr
        have H : Hid (At.unpOut S = VA k l s t ∧ At.unpErr S = 0) := by
          have h2 := HU.out.1
          rw [if_pos hr] at h2
          have h1 := HU.out.2
          rw [h2, if_pos rfl] at h1
          exact ⟨h1, h2⟩
        clear hr HU HE
        go_wp2_with fail
        refine (check_yes k l s t _ HR.out).mono ?_
        rintro e w1 ⟨rfl, rfl⟩
        go_wp2
        refine bodyPost_ret (v := .tuple #[VA k l s t, .int .i64 0]) (by simp [results, Try.results10, go_sem]) rfl ⟨?_, ?_⟩
        · rw [H.out.1, H.out.2]
        · exact ((((Below.refl _ _).alloc (Nat.le_refl _) _).alloc (by simp) _).drew).alloc (by simp; omega) _
      · have hr' : At.right k l s t = false := by simpa using hr
        have HR : Hid (At.right k l s t = false) := hr'
        have H : Hid (At.unpOut S = VA 0 0 0 0 ∧ At.unpErr S = 70) := by
          have h2 := HU.out.1
          rw [if_neg hr] at h2
          have h1 := HU.out.2
          rw [h2, if_neg (by decide)] at h1
          exact ⟨h1, h2⟩
        clear hr hr' HU HE
        go_wp2_with fail
        refine (check_no k l s t _ HR.out).mono ?_
        rintro e w1 ⟨rfl, rfl⟩
        go_wp2
        refine bodyPost_ret (v := .tuple #[VA 0 0 0 0, .int .i64 70]) (by simp [results, Try.results10, go_sem]) rfl ⟨?_, ?_⟩
        · rw [H.out.1, H.out.2]
        · exact ((((Below.refl _ _).alloc (Nat.le_refl _) _).alloc (by simp) _).drew).alloc (by simp; omega) _
  · have H : Hid (At.unpOut S = VA 0 0 0 0 ∧ At.unpErr S = 4) := ⟨by simp [At.unpOut, At.unpErr, h12], by simp [At.unpErr, h12]⟩
    have h12' : ((S.size : Int) == 12) = false := beq_eq_false_iff_ne.2 (by omega)
    clear h12
    rw [H.out.1, H.out.2]
    go_enter Try.func10, Try.ntmps10
    go_wp2
    exact bodyPost_ret (v := .tuple #[VA 0 0 0 0, .int .i64 4]) (by simp [results, Try.results10, go_sem]) rfl ⟨rfl, (Below.refl _ _).alloc (Nat.le_refl _) _⟩
theorem one_byte (S : ByteArray) (i : Nat) (h : i < S.size) : Pl.numVal (S.extract i (i + 1)) = ((S[i]'h).toNat : Int) := by
  have hl : (S.extract i (i + 1)).data.toList = [S[i]'h] := by
    have h2 : i < S.data.size := h
    rw [show (S.extract i (i + 1)).data = S.data.extract i (i + 1) from by simp]
    rw [Array.toList_extract, List.extract_eq_take_drop, List.drop_eq_getElem_cons (by simpa using h2)]
    simp
    rfl
  have hz : (S.extract i (i + 1)).size = 1 := by rw [ByteArray.size_extract]; omega
  unfold Pl.numVal Pl.sNum Pl.fNum Pl.numOf
  rw [hl, hz]
  simp
set_option maxHeartbeats 2000000 in
theorem refUnpack_any (S : ByteArray) (w : World) :
    Calls Try.prog 11 #[.string S] w fun e w' => e = .returned (.tuple #[At.unpOut S, .int .i64 (At.unpErr S)]) ∧ Below w.heap.size w w' := by
  by_cases h12 : S.size = 12
  · have e3 : (S.extract 2 6).size ≤ maxLen := by rw [ByteArray.size_extract]; unfold maxLen; omega
    have e4 : (S.extract 6 12).size ≤ maxLen := by rw [ByteArray.size_extract]; unfold maxLen; omega
    have HE : Hid ((S.extract 2 6).size ≤ maxLen ∧ (S.extract 6 12).size ≤ maxLen) := ⟨e3, e4⟩
    clear e3 e4
    have p0 : 0 < S.size := by omega
    have p1 : 1 < S.size := by omega
    have HU : Hid (At.unpErr S = (if At.right ((S[0]'p0).toNat : Int) ((S[1]'p1).toNat : Int) (Pl.numVal (S.extract 2 6)) (Pl.numVal (S.extract 6 12)) then 0 else 70) ∧ At.unpOut S = if At.unpErr S = 0 then VA ((S[0]'p0).toNat : Int) ((S[1]'p1).toNat : Int) (Pl.numVal (S.extract 2 6)) (Pl.numVal (S.extract 6 12)) else VA 0 0 0 0) := by
      have q0 := one_byte S 0 p0
      have q1 := one_byte S 1 p1
      refine ⟨?_, ?_⟩
      · unfold At.unpErr At.k At.l At.s At.t
        rw [if_pos h12, ← q0, ← q1, h12]
      · unfold At.unpOut At.k At.l At.s At.t
        rw [← q0, ← q1, h12]
    have b0 : (S[0]'p0).toNat < 256 := (S[0]'p0).toNat_lt
    have b1 : (S[1]'p1).toNat < 256 := (S[1]'p1).toNat_lt
    go_enter Try.func11, Try.ntmps11
    go_wp2_with fail
    refine (refNumber_any _ _ HE.out.1).mono ?_
    rintro e w1 ⟨rfl, rfl⟩
    go_wp2_with fail
    refine (refNumber_any _ _ HE.out.2).mono ?_
    rintro e w1 ⟨rfl, rfl⟩
    generalize Pl.numVal (S.extract 2 6) = s at HU ⊢
    generalize Pl.numVal (S.extract 6 12) = t at HU ⊢
    go_wp2
    go_region
    all_goals
      generalize ((S[0]'p0).toNat : Int) = k at HU ⊢
      generalize ((S[1]'p1).toNat : Int) = l at HU ⊢
      by_cases hr : At.right k l s t = true
      · have HR : Hid (At.right k l s t = true) := hr
        have H : Hid (At.unpOut S = VA k l s t ∧ At.unpErr S = 0) := by
          have h2 := HU.out.1
          rw [if_pos hr] at h2
          have h1 := HU.out.2
          rw [h2, if_pos rfl] at h1
          exact ⟨h1, h2⟩
        clear hr HU HE
        go_wp2_with fail
        refine (right_any k l s t _).mono ?_
        rintro e w1 ⟨rfl, rfl⟩
        rw [HR.out]
        go_wp2
        refine bodyPost_ret (v := .tuple #[VA k l s t, .int .i64 0]) (by simp [results, Try.results11, go_sem]) rfl ⟨?_, ?_⟩
        · rw [H.out.1, H.out.2]
        · exact ((((Below.refl _ _).alloc (Nat.le_refl _) _).alloc (by simp) _).drew).alloc (by simp; omega) _
      · have hr' : At.right k l s t = false := by simpa using hr
        have HR : Hid (At.right k l s t = false) := hr'
        have H : Hid (At.unpOut S = VA 0 0 0 0 ∧ At.unpErr S = 70) := by
          have h2 := HU.out.1
          rw [if_neg hr] at h2
          have h1 := HU.out.2
          rw [h2, if_neg (by decide)] at h1
          exact ⟨h1, h2⟩
        clear hr hr' HU HE
        go_wp2_with fail
        refine (right_any k l s t _).mono ?_
        rintro e w1 ⟨rfl, rfl⟩
        rw [HR.out]
        go_wp2
        refine bodyPost_ret (v := .tuple #[VA 0 0 0 0, .int .i64 70]) (by simp [results, Try.results11, go_sem]) rfl ⟨?_, ?_⟩
        · rw [H.out.1, H.out.2]
        · exact ((((Below.refl _ _).alloc (Nat.le_refl _) _).alloc (by simp) _).drew).alloc (by simp; omega) _
  · have H : Hid (At.unpOut S = VA 0 0 0 0 ∧ At.unpErr S = 4) := ⟨by simp [At.unpOut, At.unpErr, h12], by simp [At.unpErr, h12]⟩
    have h12' : ((S.size : Int) == 12) = false := beq_eq_false_iff_ne.2 (by omega)
    clear h12
    rw [H.out.1, H.out.2]
    go_enter Try.func11, Try.ntmps11
    go_wp2
    exact bodyPost_ret (v := .tuple #[VA 0 0 0 0, .int .i64 4]) (by simp [results, Try.results11, go_sem]) rfl ⟨rfl, (Below.refl _ _).alloc (Nat.le_refl _) _⟩
end Go.Proofs.Ytdbfhhkbjlednaa
