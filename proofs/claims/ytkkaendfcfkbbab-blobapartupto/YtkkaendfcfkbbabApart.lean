/-
  For any runs and any two runs of bulk at most 1048576 sextonlaw08.BlobApart returns true, whatever the memory: two writes that have no place in common may change places. One condition: the bulk.
-/
import Derived.Test.YtkkaendfcfkbbabOne
import Derived.Test.YtkkaendfcfkbbabPlainX
import Derived.JoinedCond
import Derived.Lib.SmallJoins
namespace Go.Proofs.Ytkkaendfcfkbbab
open Go.ChangeShapes Go.WideShapes Go.ChangeAt Go.RowKit Go.Deep
open Go.ChangeMaps (open_string)

theorem Bl.wErr_mk {l : List Bl.R} {at_ : Int} {d : ByteArray} (hr : Bl.right (-1) l) (h0 : 0 ≤ at_) (h1 : at_ + (d.size : Int) ≤ 1048576) : Bl.wErr l at_ d = 0 := by
  unfold Bl.wErr
  rw [if_pos hr, if_neg (by omega), if_neg (by omega)]
theorem Bl.wOut_mk {l : List Bl.R} {at_ : Int} {d : ByteArray} (h : Bl.wErr l at_ d = 0) : Bl.wOut l at_ d = Bl.write l at_ d := by unfold Bl.wOut; rw [if_pos h]
/-- The two boxes. -/
def Pair (W : World) (R : Nat) (a : Int) (A : ByteArray) (b : Int) (B : ByteArray) : Prop := W.heap[R]? = some (BR a A) ∧ W.heap[R + 1]? = some (BR b B)
theorem Pair.up {W W' : World} {R : Nat} {a : Int} {A : ByteArray} {b : Int} {B : ByteArray} (h : Pair W R a A b B) (hb : Below W.heap.size W W') : Pair W' R a A b B :=
  ⟨(hb.block _ (Array.getElem?_eq_some_iff.1 h.1).1).trans h.1, (hb.block _ (Array.getElem?_eq_some_iff.1 h.2).1).trans h.2⟩
theorem Pair.cells {W : World} {R : Nat} {a : Int} {A : ByteArray} {b : Int} {B : ByteArray} (h : Pair W R a A b B) : (W.cell? ⟨R, 0, none⟩ = some (.int .i64 a) ∧ W.cell? ⟨R, 1, none⟩ = some (.string A)) ∧ (W.cell? ⟨R + 1, 0, none⟩ = some (.int .i64 b) ∧ W.cell? ⟨R + 1, 1, none⟩ = some (.string B)) :=
  ⟨two_cells h.1, two_cells h.2⟩
theorem pair_new (w : World) (a : Int) (A : ByteArray) (b : Int) (B : ByteArray) : Pair ((w.alloc (BR a A)).alloc (BR b B)) w.heap.size a A b B := by
  refine ⟨(Below.heap_alloc _ _ _ (by simp)).trans (heap_alloc_new _ _), ?_⟩
  have h := heap_alloc_new (w.alloc (BR a A)) (BR b B)
  rw [World.size_alloc] at h
  exact h

set_option maxHeartbeats 4000000 in
theorem apart_law (v : Value) (l : List Bl.R) (a : Int) (A : ByteArray) (b : Int) (B : ByteArray) (w : World) (hv : FieldsAt w.heap.size w v l) (hok : okFields l) (hA : A.size ≤ 1048576) (hB : B.size ≤ 1048576) :
    Calls Try.prog 4 #[v, .agg #[.int .i64 a, .string A], .agg #[.int .i64 b, .string B]] w fun e w' => e = .returned (.bool true) ∧ Below w.heap.size w w' := by
  have HO : Hid (okFields l) := hok
  have HB0 : Hid (Below w.heap.size w ((w.alloc (BR a A)).alloc (BR b B))) := ((Below.refl _ _).alloc (Nat.le_refl _) _).alloc (by simp) _
  have HF0 : Hid (FieldsAt ((w.alloc (BR a A)).alloc (BR b B)).heap.size ((w.alloc (BR a A)).alloc (BR b B)) v l) := hv.up HB0.out
  have HP0 : Hid (Pair ((w.alloc (BR a A)).alloc (BR b B)) w.heap.size a A b B) := pair_new w a A b B
  have HZ : Hid (A.size ≤ maxLen ∧ B.size ≤ maxLen) := ⟨by unfold maxLen; omega, by unfold maxLen; omega⟩
  obtain ⟨ao, cap, rfl, hm, _⟩ := hv.open
  clear hv hok
  obtain ⟨n, hn⟩ : ∃ n, l.length = n := ⟨_, rfl⟩
  rw [hn] at HF0 hm ⊢
  clear hn
  have hq : ¬ 9223372036854775807 < A.size + B.size := by omega
  go_enter Try.func4, Try.ntmps4
  go_wp2_with fail
  refine (heavy_any _ l _ _ HF0.out).mono ?_
  rintro e w1 ⟨hh, rfl, hb1⟩
  have HB1 : Hid (Below w.heap.size w w1) := HB0.out.trans (hb1.mono HB0.out.size)
  have HF1 : Hid (FieldsAt w1.heap.size w1 (.slice ao n cap) l) := HF0.out.up hb1
  have HP1 : Hid (Pair w1 w.heap.size a A b B) := HP0.out.up hb1
  clear hb1 HB0 HF0 HP0
  obtain ⟨⟨c0, c1⟩, ⟨d0, d1⟩⟩ := HP1.out.cells
  cases hh with
  | true =>
    go_wp2_with fail
    refine (five_any _).mono ?_
    rintro e w2 ⟨rfl, hb2⟩
    have HB2 : Hid (Below w.heap.size w w2) := HB1.out.trans (hb2.mono HB1.out.size)
    clear hb2
    go_wp2
    go_ret
    exact ⟨rfl, HB2.out⟩
  | false =>
    by_cases g1 : a < 0
    · go_wp2_with fail
      refine (five_any _).mono ?_
      rintro e w2 ⟨rfl, hb2⟩
      have HB2 : Hid (Below w.heap.size w w2) := HB1.out.trans (hb2.mono HB1.out.size)
      clear hb2
      go_wp2
      go_ret
      exact ⟨rfl, HB2.out⟩
    by_cases g2 : b < 0
    · go_wp2_with fail
      refine (five_any _).mono ?_
      rintro e w2 ⟨rfl, hb2⟩
      have HB2 : Hid (Below w.heap.size w w2) := HB1.out.trans (hb2.mono HB1.out.size)
      clear hb2
      go_wp2
      go_ret
      exact ⟨rfl, HB2.out⟩
    by_cases g3 : 1048576 < a
    · go_wp2_with fail
      refine (five_any _).mono ?_
      rintro e w2 ⟨rfl, hb2⟩
      have HB2 : Hid (Below w.heap.size w w2) := HB1.out.trans (hb2.mono HB1.out.size)
      clear hb2
      go_wp2
      go_ret
      exact ⟨rfl, HB2.out⟩
    by_cases g4 : 1048576 < b
    · go_wp2_with fail
      refine (five_any _).mono ?_
      rintro e w2 ⟨rfl, hb2⟩
      have HB2 : Hid (Below w.heap.size w w2) := HB1.out.trans (hb2.mono HB1.out.size)
      clear hb2
      go_wp2
      go_ret
      exact ⟨rfl, HB2.out⟩
    by_cases g5 : a < b + (B.size : Int) ∧ b < a + (A.size : Int)
    · obtain ⟨g6, g7⟩ := g5
      go_wp2_with fail
      refine (five_any _).mono ?_
      rintro e w2 ⟨rfl, hb2⟩
      have HB2 : Hid (Below w.heap.size w w2) := HB1.out.trans (hb2.mono HB1.out.size)
      clear hb2
      go_wp2
      go_ret
      exact ⟨rfl, HB2.out⟩
    have hdis : a + (A.size : Int) ≤ b ∨ b + (B.size : Int) ≤ a := by omega
    have HD : Hid (a + (A.size : Int) ≤ b ∨ b + (B.size : Int) ≤ a) := hdis
    have key : (¬ a < b + (B.size : Int)) ∨ (a < b + (B.size : Int) ∧ ¬ b < a + (A.size : Int)) := by omega
    clear g5 hdis
    rcases key with k1 | ⟨k1, k2⟩
    all_goals
      go_wp2_with fail
      refine (write_any _ l a A _ HF1.out HO.out HZ.out.1).mono ?_
      rintro e w2 ⟨r2, rfl, hown2, hb2⟩
      have HB2 : Hid (Below w.heap.size w w2) := HB1.out.trans (hb2.mono HB1.out.size)
      have HF2 : Hid (FieldsAt w2.heap.size w2 (.slice ao n cap) l ∧ FieldsAt w2.heap.size w2 r2 (Bl.wOut l a A)) := ⟨HF1.out.up hb2, FieldsAt.of_own hown2⟩
      have HP2 : Hid (Pair w2 w.heap.size a A b B) := HP1.out.up hb2
      clear hb2 hown2 c0 c1 d0 d1
      obtain ⟨⟨c0, c1⟩, ⟨d0, d1⟩⟩ := HP2.out.cells
      obtain ⟨y1, hy1⟩ : ∃ y1, Bl.wErr l a A = y1 := ⟨_, rfl⟩
      have HY1 : Hid (Bl.wErr l a A = y1) := hy1
      rw [hy1]
      clear hy1
      go_wp2_with fail
      refine (write_any _ l b B _ HF2.out.1 HO.out HZ.out.2).mono ?_
      rintro e w3 ⟨r3, rfl, hown3, hb3⟩
      have HB3 : Hid (Below w.heap.size w w3) := HB2.out.trans (hb3.mono HB2.out.size)
      have HF3 : Hid (FieldsAt w3.heap.size w3 r2 (Bl.wOut l a A) ∧ FieldsAt w3.heap.size w3 r3 (Bl.wOut l b B)) := ⟨HF2.out.2.up hb3, FieldsAt.of_own hown3⟩
      have HP3 : Hid (Pair w3 w.heap.size a A b B) := HP2.out.up hb3
      clear hb3 hown3 c0 c1 d0 d1
      obtain ⟨⟨c0, c1⟩, ⟨d0, d1⟩⟩ := HP3.out.cells
      obtain ⟨y2, hy2⟩ : ∃ y2, Bl.wErr l b B = y2 := ⟨_, rfl⟩
      have HY2 : Hid (Bl.wErr l b B = y2) := hy2
      rw [hy2]
      clear hy2
      by_cases e1 : y1 = 0
      · by_cases e2 : y2 = 0
        · subst e1
          subst e2
          obtain ⟨hr, i1, i2⟩ := Bl.wErr_ok HY1.out
          obtain ⟨_, j1, j2⟩ := Bl.wErr_ok HY2.out
          have HX : Hid (Bl.right (-1) (Bl.wOut l a A) ∧ Bl.right (-1) (Bl.wOut l b B)) := by
            rw [Bl.wOut_mk HY1.out, Bl.wOut_mk HY2.out]
            exact ⟨Bl.write_right hr i1 i2, Bl.write_right hr j1 j2⟩
          have HE : Hid (Bl.wErr (Bl.wOut l a A) b B = 0 ∧ Bl.wErr (Bl.wOut l b B) a A = 0) := ⟨Bl.wErr_mk HX.out.1 j1 j2, Bl.wErr_mk HX.out.2 i1 i2⟩
          have HS : Hid (Bl.wOut (Bl.wOut l a A) b B = Bl.wOut (Bl.wOut l b B) a A) := by
            show Bl.wOut (Bl.wOut l a A) b B = Bl.wOut (Bl.wOut l b B) a A
            rw [Bl.wOut_mk HE.out.1, Bl.wOut_mk HE.out.2, Bl.wOut_mk HY1.out, Bl.wOut_mk HY2.out]
            exact Bl.apart hr i1 j1 i2 j2 HD.out
          clear hr i1 i2 j1 j2
          go_wp2_with fail
          refine (write_any _ (Bl.wOut l a A) b B _ HF3.out.1 (ok_of_right HX.out.1) HZ.out.2).mono ?_
          rintro e w4 ⟨r4, rfl, hown4, hb4⟩
          have HB4 : Hid (Below w.heap.size w w4) := HB3.out.trans (hb4.mono HB3.out.size)
          have HF4 : Hid (FieldsAt w4.heap.size w4 r3 (Bl.wOut l b B) ∧ FieldsAt w4.heap.size w4 r4 (Bl.wOut (Bl.wOut l a A) b B)) := ⟨HF3.out.2.up hb4, FieldsAt.of_own hown4⟩
          have HP4 : Hid (Pair w4 w.heap.size a A b B) := HP3.out.up hb4
          clear hb4 hown4 c0 c1 d0 d1
          obtain ⟨⟨c0, c1⟩, ⟨d0, d1⟩⟩ := HP4.out.cells
          rw [HE.out.1]
          go_wp2_with fail
          refine (write_any _ (Bl.wOut l b B) a A _ HF4.out.1 (ok_of_right HX.out.2) HZ.out.1).mono ?_
          rintro e w5 ⟨r5, rfl, hown5, hb5⟩
          have HB5 : Hid (Below w.heap.size w w5) := HB4.out.trans (hb5.mono HB4.out.size)
          have HF5 : Hid (FieldsAt w5.heap.size w5 r4 (Bl.wOut (Bl.wOut l a A) b B) ∧ FieldsAt w5.heap.size w5 r5 (Bl.wOut (Bl.wOut l a A) b B)) := ⟨HF4.out.2.up hb5, by rw [HS.out]; exact FieldsAt.of_own hown5⟩
          clear hb5 hown5 c0 c1 d0 d1
          rw [HE.out.2]
          go_wp2_with fail
          refine (runs_same _ _ _ _ HF5.out.1 HF5.out.2).mono ?_
          rintro e w6 ⟨rfl, hb6⟩
          have HB6 : Hid (Below w.heap.size w w6) := HB5.out.trans (hb6.mono HB5.out.size)
          clear hb6
          go_wp2_with fail
          refine (five_any _).mono ?_
          rintro e w7 ⟨rfl, hb7⟩
          have HB7 : Hid (Below w.heap.size w w7) := HB6.out.trans (hb7.mono HB6.out.size)
          clear hb7
          go_wp2
          go_ret
          exact ⟨rfl, HB7.out⟩
        · subst e1
          have e2' : (y2 != 0) = true := by simpa using e2
          clear e2
          go_wp2_with fail
          refine (five_any _).mono ?_
          rintro e w4 ⟨rfl, hb4⟩
          have HB4 : Hid (Below w.heap.size w w4) := HB3.out.trans (hb4.mono HB3.out.size)
          clear hb4
          go_wp2
          go_ret
          exact ⟨rfl, HB4.out⟩
      · have e1' : (y1 != 0) = true := by simpa using e1
        clear e1
        go_wp2_with fail
        refine (five_any _).mono ?_
        rintro e w4 ⟨rfl, hb4⟩
        have HB4 : Hid (Below w.heap.size w w4) := HB3.out.trans (hb4.mono HB3.out.size)
        clear hb4
        go_wp2
        go_ret
        exact ⟨rfl, HB4.out⟩

theorem apart_small {H : Type} {d0 : DataW H} {a b : DataW H} {A B : ByteArray} (hk : Rows.uptoSmall H [d0, .agg [a, .lit (.string A.data.toList)], .agg [b, .lit (.string B.data.toList)]] = true) : A.size ≤ 1048576 ∧ B.size ≤ 1048576 := by
  have h : Rows.uptoBulkAll [d0, .agg [a, .lit (.string A.data.toList)], .agg [b, .lit (.string B.data.toList)]] ≤ 1048576 := of_decide_eq_true hk
  simp only [Rows.uptoBulkAll, Rows.uptoBulk] at h
  have e : A.data.toList.length = A.size := by rw [Array.length_toList]; rfl
  have e2 : B.data.toList.length = B.size := by rw [Array.length_toList]; rfl
  omega

set_option maxRecDepth 100000 in
theorem blobApart_lifted (os : Os) (started : os.Started) (H : Type) (enc : TypeId × Value → H) (F : Stop.Interp) :
    ReturnsInHanded {} Try.checked os 4 .any ((Rows.OpenSpec.upto Rows.blobApartSpec).pre6 enc Try.prog Try.f4 Rows.blobApartUptoRow.domain false) (((Rows.OpenSpec.upto Rows.blobApartSpec).at F).post enc Try.prog Try.f4 false true false false) := by
  refine returnsInHanded_of_cond (C := Try.checked) (s := Rows.OpenSpec.upto Rows.blobApartSpec) (k := Rows.uptoSmall) rfl own started (by kernel_rfl) Try.func4
    (OpenSpec.witness (enc := enc) (C := Try.checked) (s := Rows.OpenSpec.upto Rows.blobApartSpec) (k := Rows.uptoSmall) rfl false ⟨#[], #[.slice none 0 0, .agg #[.int .i64 0, .string .empty], .agg #[.int .i64 0, .string .empty]], []⟩ 8 (by kernel_rfl) (by kernel_rfl) (by kernel_rfl)
      (x := ([.nil, .agg [.lit (.int .i64 0), .lit (.string [])], .agg [.lit (.int .i64 0), .lit (.string [])]], [], [])) (by kernel_rfl) rfl (by kernel_rfl)) ?_
  intro W base args ds gs before hval0 hW _ hk _
  have hval : ∀ (j : Nat) t v, Try.f4.params[j]? = some t → args[j]? = some v → Value.okWide Try.prog W .any base t v := hval0
  have hW' := hW
  have hlt : ∀ x ∈ before, x.block < W.heap.size := fun x hx => by simpa using hW'.lt x hx
  obtain ⟨p, q, hA0, hV, rfl, hfz, hnd⟩ := hW
  have hA : DataW.TrodAll enc Try.prog W 0 (fun _ => true) true Try.f4.params.toList args.toList ds p := hA0
  rw [Try.params4] at hA hval
  obtain ⟨v0, v1, v2, d0, d1, d2, p0, p1, p2, rfl, rfl, rfl, h0, h1, h2⟩ := trodAll_three hA
  obtain ⟨rfl, rfl⟩ := trodVars_none hV
  obtain ⟨l, sp, hF, hok, _⟩ := open_fields Try.underlying22 Try.underlying26 (by kernel_rfl) rfl rfl (by kernel_rfl) (by kernel_rfl) Try.underlying3 Try.underlying9 (okWide_slice Try.underlying22 (hval 0 22 v0 rfl rfl)) (fun x hx => hlt x (by simp [hx])) h0
  obtain ⟨c0, c1, y0, y1, m1, rfl, rfl, rfl, g0, g1⟩ := Joins.open_agg2 Try.underlying26 (by kernel_rfl) (by kernel_rfl) (hval 1 26 v1 rfl rfl) h1
  obtain ⟨c2, c3, y2, y3, m2, rfl, rfl, rfl, g2, g3⟩ := Joins.open_agg2 Try.underlying26 (by kernel_rfl) (by kernel_rfl) (hval 2 26 v2 rfl rfl) h2
  obtain ⟨a, e0, r0, wa⟩ := DataW.trod_int Try.underlying3 g0
  obtain ⟨A, e1, r1, hzA⟩ := DataW.trod_string Try.underlying9 g1
  obtain ⟨b, e2, r2, wb⟩ := DataW.trod_int Try.underlying3 g2
  obtain ⟨B, e3, r3, hzB⟩ := DataW.trod_string Try.underlying9 g3
  simp only [List.cons.injEq, and_true] at e0 e1 e2 e3
  subst e0
  subst e1
  subst e2
  subst e3
  subst r0
  subst r1
  subst r2
  subst r3
  obtain ⟨s1, s2⟩ := apart_small hk
  refine (apart_law v0 l a A b B W hF hok s1 s2).mono fun e W' ⟨he, hg⟩ => ⟨_, he, ?_⟩
  exact Law.post laidOut (by kernel_rfl) rfl Try.underlying4 hW' rfl rfl hg

theorem blobApartUpto_holds : Rows.BlobApartUptoSaid :=
  OpenClaim.holds_of_cond 4 Try.f4 rfl rfl rfl rfl rfl rfl rfl ⟨rfl, rfl, rfl, rfl, rfl⟩ rfl rfl rfl rfl rfl (by kernel_rfl) Try.func4 (by kernel_rfl)
    (of_decide_eq_true (by kernel_rfl)) (by unfold Func.isWrapper; first | (rw [if_pos (by decide +kernel)]; kernel_rfl) | (rw [if_neg (by decide +kernel)]; exact ⟨rfl, rfl⟩))
    (fun os started H enc _ F => blobApart_lifted os started H enc F)
#print axioms blobApartUpto_holds
end Go.Proofs.Ytkkaendfcfkbbab
