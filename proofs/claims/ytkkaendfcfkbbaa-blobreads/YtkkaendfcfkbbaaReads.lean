/-
  For any runs and any place sextonlaw08.BlobReads returns true, whatever the memory: blob.Read answers what the document's Read answers. No condition.
-/
import Derived.Test.YtkkaendfcfkbbaaRefRead
import Derived.Test.YtkkaendfcfkbbaaKit
import Derived.Lib.SmallJoins
namespace Go.Proofs.Ytkkaendfcfkbbaa
open Go.ChangeShapes Go.WideShapes Go.ChangeAt Go.RowKit Go.Deep
open Go.ChangeMaps (open_string)

abbrev BP (s a n : Int) : Obj := .cells #[.int .i64 s, .int .i64 a, .int .i64 n] 38
theorem three_of {w : World} {b : Nat} {s a n : Int} (h : w.heap[b]? = some (BP s a n)) : w.cell? ⟨b, 0, none⟩ = some (.int .i64 s) ∧ w.cell? ⟨b, 1, none⟩ = some (.int .i64 a) ∧ w.cell? ⟨b, 2, none⟩ = some (.int .i64 n) := by
  refine ⟨?_, ?_, ?_⟩ <;> simp [World.cell?, h]
set_option maxHeartbeats 2000000 in
theorem reads_law (v : Value) (l : List Bl.R) (ps pa pn : Int) (w : World) (hv : FieldsAt w.heap.size w v l) (hok : okFields l) (ha : pa ≤ 9223372036854775807) :
    Calls Try.prog 5 #[v, .agg #[.int .i64 ps, .int .i64 pa, .int .i64 pn]] w fun e w' => e = .returned (.bool true) ∧ Below w.heap.size w w' := by
  have HB0 : Hid (Below w.heap.size w (w.alloc (BP ps pa pn))) := (Below.refl _ _).alloc (Nat.le_refl _) _
  have HF0 : Hid (FieldsAt (w.alloc (BP ps pa pn)).heap.size (w.alloc (BP ps pa pn)) v l) := hv.up HB0.out
  have HP0 : Hid ((w.alloc (BP ps pa pn)).heap[w.heap.size]? = some (BP ps pa pn)) := heap_alloc_new _ _
  obtain ⟨ao, cap, rfl, hm, _⟩ := hv.open
  clear hv
  unfold maxLen at hm
  obtain ⟨n, hn⟩ : ∃ n, l.length = n := ⟨_, rfl⟩
  rw [hn] at HF0 hm ⊢
  have HO : Hid (okFields l) := hok
  clear hn hok
  obtain ⟨y, hy⟩ : ∃ y, Bl.rErr l ps pa pn = y := ⟨_, rfl⟩
  obtain ⟨z, hz⟩ : ∃ z, Bl.rOut l ps pa pn = z := ⟨_, rfl⟩
  have HY : Hid (Bl.rErr l ps pa pn = y ∧ Bl.rOut l ps pa pn = z) := ⟨hy, hz⟩
  clear hy hz
  go_enter Try.func5, Try.ntmps5
  by_cases h2 : (2000 : Int) < (n : Int)
  · go_wp2_with fail
    refine (five_any _).mono ?_
    rintro e w1 ⟨rfl, hb1⟩
    have HB1 : Hid (Below w.heap.size w w1) := HB0.out.trans (hb1.mono HB0.out.size)
    clear hb1
    go_wp2
    go_ret
    exact ⟨rfl, HB1.out⟩
  · go_wp2_with fail
    refine (read_any _ l ps pa pn _ HF0.out HO.out).mono ?_
    rintro e w1 ⟨rfl, hb1⟩
    rw [HY.out.1, HY.out.2]
    have HB1 : Hid (Below w.heap.size w w1) := HB0.out.trans (hb1.mono HB0.out.size)
    have HF1 : Hid (FieldsAt w1.heap.size w1 (.slice ao n cap) l) := HF0.out.up hb1
    obtain ⟨c0, c1, c2⟩ := three_of ((hb1.block _ (by simp)).trans HP0.out)
    clear hb1
    go_wp2_with fail
    refine (refRead_any _ l ps pa pn _ HF1.out HO.out ha).mono ?_
    rintro e w2 ⟨rfl, hb2⟩
    rw [HY.out.1, HY.out.2]
    have HB2 : Hid (Below w.heap.size w w2) := HB1.out.trans (hb2.mono HB1.out.size)
    clear hb2 c0 c1 c2
    go_wp2_with fail
    refine (five_any _).mono ?_
    rintro e w3 ⟨rfl, hb3⟩
    have HB3 : Hid (Below w.heap.size w w3) := HB2.out.trans (hb3.mono HB2.out.size)
    clear hb3
    go_wp2
    go_ret
    exact ⟨rfl, HB3.out⟩

set_option maxRecDepth 100000 in
theorem blobReads_lifted (os : Os) (started : os.Started) (H : Type) (enc : TypeId × Value → H) :
    ReturnsInHanded {} Try.checked os 5 .any (Rows.blobReadsSpec.pre6 enc Try.prog Try.f5 Rows.blobReadsRow.domain false) (Rows.blobReadsSpec.post enc Try.prog Try.f5 false true false false) := by
  refine returnsInHanded_of_change (C := Try.checked) own started (by kernel_rfl) Try.func5
    (ChangeSpec.witness6 (enc := enc) (C := Try.checked) false ⟨#[], #[.slice none 0 0, .agg #[.int .i64 0, .int .i64 0, .int .i64 0]], []⟩ 8 (by kernel_rfl) (by kernel_rfl) (by kernel_rfl) (by kernel_rfl)) ?_
  intro W base args ds gs before hval0 hW hcnd _
  have hval : ∀ (j : Nat) t v, Try.f5.params[j]? = some t → args[j]? = some v → Value.okWide Try.prog W .any base t v := hval0
  have hW' := hW
  have hlt : ∀ x ∈ before, x.block < W.heap.size := fun x hx => by simpa using hW'.lt x hx
  obtain ⟨p, q, hA0, hV, rfl, hfz, hnd⟩ := hW
  have hA : DataW.TrodAll enc Try.prog W 0 (fun _ => true) true Try.f5.params.toList args.toList ds p := hA0
  rw [Try.params5] at hA hval
  obtain ⟨v0, v1, d0, d1, p0, p1, rfl, rfl, rfl, h0, h1⟩ := trodAll_two hA
  obtain ⟨rfl, rfl⟩ := trodVars_none hV
  obtain ⟨l, sp, hF, hok, _⟩ := open_fields Try.underlying22 Try.underlying24 (by kernel_rfl) rfl rfl (by kernel_rfl) (by kernel_rfl) Try.underlying3 Try.underlying9 (okWide_slice Try.underlying22 (hval 0 22 v0 rfl rfl)) (fun x hx => hlt x (by simp [hx])) h0
  obtain ⟨c0, c1, c2, y0, y1, y2, m1, rfl, rfl, rfl, g0, g1, g2⟩ := Joins.open_agg3 Try.underlying38 (by kernel_rfl) (by kernel_rfl) (hval 1 38 v1 rfl rfl) h1
  obtain ⟨ps, e0, _, w0⟩ := DataW.trod_int Try.underlying3 g0
  obtain ⟨pa, e1, _, w1⟩ := DataW.trod_int Try.underlying3 g1
  obtain ⟨pn, e2, _, w2⟩ := DataW.trod_int Try.underlying3 g2
  simp only [List.cons.injEq, and_true] at e0 e1 e2
  subst e0
  subst e1
  subst e2
  refine (reads_law v0 l ps pa pn W hF hok (i64_le w1).2).mono fun e W' ⟨he, hg⟩ => ⟨_, he, ?_⟩
  exact Law.post laidOut (by kernel_rfl) rfl Try.underlying4 hW' rfl rfl hg

theorem blobReads_holds : Rows.BlobReadsSaid :=
  OpenClaim.holds_of_wide 5 Try.f5 rfl rfl rfl rfl rfl rfl rfl ⟨rfl, rfl, rfl, rfl, rfl⟩ rfl rfl rfl rfl rfl (by kernel_rfl) Try.func5 (by kernel_rfl)
    (of_decide_eq_true (by kernel_rfl)) (by unfold Func.isWrapper; first | (rw [if_pos (by decide +kernel)]; kernel_rfl) | (rw [if_neg (by decide +kernel)]; exact ⟨rfl, rfl⟩))
    (fun os started H enc _ => blobReads_lifted os started H enc)
#print axioms blobReads_holds
end Go.Proofs.Ytkkaendfcfkbbaa
