/-
  For any runs, any int and any string sextonlaw08.BlobWrites returns true, whatever the memory: blob.Write answers what the document's Write answers. No condition.
-/
import Derived.Test.YtkkaendfcfkbbaaRefWrite
namespace Go.Proofs.Ytkkaendfcfkbbaa
open Go.ChangeShapes Go.WideShapes Go.ChangeAt Go.RowKit Go.Deep
open Go.ChangeMaps (open_string)

set_option maxHeartbeats 4000000 in
theorem writes_law (v : Value) (l : List Bl.R) (at_ : Int) (d : ByteArray) (w : World) (hv : FieldsAt w.heap.size w v l) (hok : okFields l) (hd : d.size ≤ maxLen) :
    Calls Try.prog 4 #[v, .int .i64 at_, .string d] w fun e w' => e = .returned (.bool true) ∧ Below w.heap.size w w' := by
  have HV : Hid (FieldsAt w.heap.size w v l) := hv
  obtain ⟨ao, cap, rfl, hm, _⟩ := hv.open
  clear hv
  obtain ⟨n, hn⟩ : ∃ n, l.length = n := ⟨_, rfl⟩
  rw [hn] at HV hm ⊢
  have HO : Hid (okFields l) := hok
  clear hn hok
  obtain ⟨y, hy⟩ : ∃ y, Bl.wErr l at_ d = y := ⟨_, rfl⟩
  have HY : Hid (Bl.wErr l at_ d = y) := hy
  clear hy
  go_enter Try.func4, Try.ntmps4
  go_wp2_with fail
  refine (heavy_any _ l _ _ HV.out).mono ?_
  rintro e w1 ⟨b, rfl, hb1⟩
  have HB1 : Hid (Below w.heap.size w w1) := hb1
  have HF1 : Hid (FieldsAt w1.heap.size w1 (.slice ao n cap) l) := HV.out.up hb1
  clear hb1
  cases b with
  | true =>
    go_wp2_with fail
    refine (five_any _).mono ?_
    rintro e w2 ⟨rfl, hb2⟩
    have HB2 : Hid (Below w.heap.size w w2) := HB1.out.trans (hb2.mono HB1.out.size)
    clear hb2
    go_wp2
    go_ret
    exact ⟨rfl, HB2.out⟩
  | false =>
    go_wp2_with fail
    refine (write_any _ l at_ d _ HF1.out HO.out hd).mono ?_
    rintro e w2 ⟨r2, rfl, hown2, hb2⟩
    rw [HY.out]
    have HB2 : Hid (Below w.heap.size w w2) := HB1.out.trans (hb2.mono HB1.out.size)
    have HF2 : Hid (FieldsAt w2.heap.size w2 (.slice ao n cap) l ∧ FieldsAt w2.heap.size w2 r2 (Bl.wOut l at_ d)) := ⟨HF1.out.up hb2, FieldsAt.of_own hown2⟩
    clear hb2 hown2
    go_wp2_with fail
    refine (refWrite_any _ l at_ d _ HF2.out.1 HO.out hd).mono ?_
    rintro e w3 ⟨r3, rfl, hF3, hb3⟩
    rw [HY.out]
    have HB3 : Hid (Below w.heap.size w w3) := HB2.out.trans (hb3.mono HB2.out.size)
    have HF3 : Hid (FieldsAt w3.heap.size w3 r2 (Bl.wOut l at_ d) ∧ FieldsAt w3.heap.size w3 r3 (Bl.wOut l at_ d)) := ⟨HF2.out.2.up hb3, hF3⟩
    clear hb3 hF3
    go_wp2_with fail
    refine (runs_same _ _ _ _ HF3.out.1 HF3.out.2).mono ?_
    rintro e w4 ⟨rfl, hb4⟩
    have HB4 : Hid (Below w.heap.size w w4) := HB3.out.trans (hb4.mono HB3.out.size)
    clear hb4
    go_wp2_with fail
    refine (five_any _).mono ?_
    rintro e w5 ⟨rfl, hb5⟩
    have HB5 : Hid (Below w.heap.size w w5) := HB4.out.trans (hb5.mono HB4.out.size)
    clear hb5
    go_wp2
    go_ret
    exact ⟨rfl, HB5.out⟩

set_option maxRecDepth 100000 in
theorem blobWrites_lifted (os : Os) (started : os.Started) (H : Type) (enc : TypeId × Value → H) :
    ReturnsInHanded {} Try.checked os 4 .any (Rows.blobWritesSpec.pre6 enc Try.prog Try.f4 Rows.blobWritesRow.domain false) (Rows.blobWritesSpec.post enc Try.prog Try.f4 false true false false) := by
  refine returnsInHanded_of_change (C := Try.checked) own started (by kernel_rfl) Try.func4
    (ChangeSpec.witness6 (enc := enc) (C := Try.checked) false ⟨#[], #[.slice none 0 0, .int .i64 0, .string .empty], []⟩ 8 (by kernel_rfl) (by kernel_rfl) (by kernel_rfl) (by kernel_rfl)) ?_
  intro W base args ds gs before hval0 hW hcnd _
  have hval : ∀ (j : Nat) t v, Try.f4.params[j]? = some t → args[j]? = some v → Value.okWide Try.prog W .any base t v := hval0
  have hW' := hW
  have hlt : ∀ x ∈ before, x.block < W.heap.size := fun x hx => by simpa using hW'.lt x hx
  obtain ⟨p, q, hA0, hV, rfl, hfz, hnd⟩ := hW
  have hA : DataW.TrodAll enc Try.prog W 0 (fun _ => true) true Try.f4.params.toList args.toList ds p := hA0
  rw [Try.params4] at hA hval
  obtain ⟨v0, v1, v2, d0, d1, d2, p0, p1, p2, rfl, rfl, rfl, h0, h1, h2⟩ := trodAll_three hA
  obtain ⟨rfl, rfl⟩ := trodVars_none hV
  obtain ⟨l, sp, hF, hok, _⟩ := open_fields Try.underlying22 Try.underlying24 (by kernel_rfl) rfl rfl (by kernel_rfl) (by kernel_rfl) Try.underlying3 Try.underlying9 (okWide_slice Try.underlying22 (hval 0 22 v0 rfl rfl)) (fun x hx => hlt x (by simp [hx])) h0
  obtain ⟨a1, rfl, rfl, rfl, w1⟩ := open_int Try.underlying3 (hval 1 3 v1 rfl rfl) h1
  obtain ⟨s2, rfl, rfl, rfl, z2⟩ := open_string Try.underlying9 (hval 2 9 v2 rfl rfl) h2
  refine (writes_law v0 l a1 s2 W hF hok z2).mono fun e W' ⟨he, hg⟩ => ⟨_, he, ?_⟩
  exact Law.post laidOut (by kernel_rfl) rfl Try.underlying4 hW' rfl rfl hg

theorem blobWrites_holds : Rows.BlobWritesSaid :=
  OpenClaim.holds_of_wide 4 Try.f4 rfl rfl rfl rfl rfl rfl rfl ⟨rfl, rfl, rfl, rfl, rfl⟩ rfl rfl rfl rfl rfl (by kernel_rfl) Try.func4 (by kernel_rfl)
    (of_decide_eq_true (by kernel_rfl)) (by unfold Func.isWrapper; first | (rw [if_pos (by decide +kernel)]; kernel_rfl) | (rw [if_neg (by decide +kernel)]; exact ⟨rfl, rfl⟩))
    (fun os started H enc _ => blobWrites_lifted os started H enc)
#print axioms blobWrites_holds
end Go.Proofs.Ytkkaendfcfkbbaa
