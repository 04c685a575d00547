/-
  For any two slices of fields of bulk together at most 1048576 sextonlaw01.TlvParts returns true, whatever the memory: fields one behind the other, if no tag falls, have their bytes one behind the other. One condition: the bulk.
-/
import Derived.Test.YtdgainpbaphniabRows
import Derived.Test.YtdgainpbaphniabLaw
import Derived.Test.YtdgainpbaphniabBulk
import Derived.Test.YtdgainpbaphniabPack
import Derived.Test.YtdgainpbaphniabPlainJ
import Derived.Deep.RegionHeld3
import Derived.JoinedCond
namespace Go.Proofs.Ytdgainpbaphniab
open Go.ChangeShapes Go.WideShapes Go.ChangeAt Go.RowKit Go.Deep

theorem wrap_small (n : Nat) (h : n < 9223372036854775808) : IntKind.i64.wrap (n : Int) = (n : Int) := by
  have e : (n : Int) % 2 ^ 64 = n := Int.emod_eq_of_lt (by omega) (by omega)
  simp only [IntKind.wrap, IntKind.bits, IntKind.signed, e]
  rw [if_neg]
  simp
  omega
theorem info34 : (Try.prog.info? 34).map (fun i => (i.zero, i.size, i.bytes)) = some (some (.agg #[.int .i64 0, .string ⟨#[]⟩]), 2, 24) := by kernel_rfl

/-- What a slice of fields yields as the source of an append. -/
theorem src_fields {B : Nat} {w : World} {v : Value} {l : List (Int × ByteArray)} (h : FieldsAt B w v l) : Src Try.prog 2 22 v l.length (cellsOf l) w := by
  rcases h with ⟨ao, cap, rfl, rfl⟩ | ⟨b, off, cap, rfl, hB, hp, hlc, hm, hx⟩
  · cases ao with
    | none => exact Src.ofNil w Try.underlying22 cap
    | some a => exact Src.ofSlice w Try.underlying22 a 0 cap [] rfl (fun j u h => by simp at h) (fun u h => by cases h)
  · refine Src.ofSlice w Try.underlying22 ⟨b, off, none⟩ l.length cap (cellsOf l) (cellsOf_length l) (fun j u hj => ?_) (fun u hu => ?_)
    · have hjl : j < l.length * 2 := by
        rcases Nat.lt_or_ge j (cellsOf l).length with h' | h'
        · rwa [cellsOf_length] at h'
        · rw [List.getElem?_eq_none h'] at hj; cases hj
      rw [WideShapes.add_plain]
      have hi : j / 2 < l.length := by omega
      obtain ⟨g0, g1⟩ := hx (j / 2) hi
      obtain ⟨q0, q1⟩ := cellsOf_at l (j / 2) hi
      rcases Nat.mod_two_eq_zero_or_one j with h2 | h2
      · have e : j = j / 2 * 2 := by omega
        rw [e] at hj ⊢
        rw [q0] at hj
        rw [g0]
        exact hj
      · have e : j = j / 2 * 2 + 1 := by omega
        rw [e] at hj ⊢
        rw [q1] at hj
        rw [← Nat.add_assoc, g1]
        exact hj
    · simp only [cellsOf, List.mem_flatMap] at hu
      obtain ⟨x, _, hu⟩ := hu
      simp at hu
      rcases hu with rfl | rfl <;> rfl

theorem held2_step {w w1 w2 : World} {b o b' o' : Nat} {x y : Value} (h : w1.cell? ⟨b, o, none⟩ = some x ∧ w1.cell? ⟨b', o', none⟩ = some y ∧ Below w.heap.size w w1) (hB : b < w.heap.size) (hB' : b' < w.heap.size) (hb : Below w1.heap.size w1 w2) :
    w2.cell? ⟨b, o, none⟩ = some x ∧ w2.cell? ⟨b', o', none⟩ = some y ∧ Below w.heap.size w w2 := by
  have hs := h.2.2.size
  refine ⟨?_, ?_, h.2.2.trans (hb.mono h.2.2.size)⟩
  · rw [hb.cell (p := ⟨b, o, none⟩) (by show b < w1.heap.size; omega)]; exact h.1
  · rw [hb.cell (p := ⟨b', o', none⟩) (by show b' < w1.heap.size; omega)]; exact h.2.1

set_option maxHeartbeats 2000000 in
theorem parts_any (u v : Value) (a b : List (Int × ByteArray)) (w : World) (hu : FieldsAt w.heap.size w u a) (hv : FieldsAt w.heap.size w v b) (hE : (Pl.encs a).length + (Pl.encs b).length ≤ 1048576) :
    Calls Try.prog 4 #[u, v] w fun e w' => e = .returned (.bool true) ∧ Below w.heap.size w w' := by
  obtain ⟨i0, hi, hz0, hz1, hz2⟩ := info_parts info34
  have HU : Hid (FieldsAt w.heap.size w u a) := hu
  have HV : Hid (FieldsAt w.heap.size w v b) := hv
  have HEA : Hid ((Pl.encs a).length ≤ 1099511627776) := by show (Pl.encs a).length ≤ _; omega
  have HEB : Hid ((Pl.encs b).length ≤ 1099511627776) := by show (Pl.encs b).length ≤ _; omega
  have HEC : Hid ((Pl.encs (a ++ b)).length ≤ 1099511627776) := by show (Pl.encs (a ++ b)).length ≤ _; rw [Pl.encs_append_length]; omega
  have hla : a.length ≤ 1048576 := by have := encs_ge a; omega
  have hlb : b.length ≤ 1048576 := by have := encs_ge b; omega
  have HSZ : Hid ((Pl.packOut a).size + (Pl.packOut b).size ≤ 1048576) := by
    show (Pl.packOut a).size + (Pl.packOut b).size ≤ 1048576
    have h1 : (Pl.packOut a).size ≤ (Pl.encs a).length := by unfold Pl.packOut; split <;> simp [Pl.txt_size]
    have h2 : (Pl.packOut b).size ≤ (Pl.encs b).length := by unfold Pl.packOut; split <;> simp [Pl.txt_size]
    omega
  clear hu hv hE
  go_enter Try.func4, Try.ntmps4
  go_wp2_with fail
  refine (pack_any _ a _ HU.out HEA.out).mono ?_
  rintro e w1 ⟨rfl, hb1⟩
  go_wp2_with fail
  refine (pack_any _ b _ ((HV.out.below hb1 (Nat.le_refl _)).mono hb1.size) HEB.out).mono ?_
  rintro e w2 ⟨rfl, hb2⟩
  have hb02 : Below w.heap.size w w2 := hb1.trans (hb2.mono hb1.size)
  have hsz := hb02.size
  clear hb1 hb2
  go_wp2_with (first
    | (at_builtin; refine App.wpList_own _ rfl (.tmp 22) (.tmp 23) 22 22 rfl w.heap.size 34 i0 (.agg #[.int .i64 0, .string ⟨#[]⟩]) 2 24 Try.underlying22 hi hz0 hz1 hz2 rfl _ 0 [] rfl (World.ownsRow_nil _ _ _ _) _ _ _ rfl (src_fields (HU.out.below hb02 (Nat.le_refl _))) (by unfold maxLen; omega) (by omega) (by omega) ?_; intro v3 w3 hown3 hgrow3; have hb03 : Below w.heap.size w w3 := hb02.grown hgrow3 hsz (fun g hg => by cases (show (Option.none : Option Nat) = some g from hg)); have hsz3 := hb03.size; simp only [Nat.zero_add, List.nil_append] at hown3)
    | (at_builtin; refine App.wpList_own _ rfl (.tmp 25) (.tmp 26) 22 22 rfl w.heap.size 34 i0 (.agg #[.int .i64 0, .string ⟨#[]⟩]) 2 24 Try.underlying22 hi hz0 hz1 hz2 rfl _ _ _ rfl hown3 _ _ _ rfl (src_fields (HV.out.below hb03 (Nat.le_refl _))) (by unfold maxLen; omega) (by omega) (by omega) ?_; intro v4 w4 hown4 hgrow4))
  have hb04 : Below w.heap.size w w4 := hb03.grown hgrow4 hsz3 (fun g hg => (hown3.lt g hg).1)
  have hF4 : FieldsAt w4.heap.size w4 v4 (a ++ b) := by
    refine FieldsAt.of_own (base := w.heap.size) (e := 34) ?_
    rw [List.length_append, cellsOf_append]
    exact hown4
  clear hown3 hgrow3 hown4 hgrow4 hb02 hb03 hsz hsz3
  refine (pack_any _ (a ++ b) _ hF4 HEC.out).mono ?_
  rintro e w5 ⟨rfl, hb5⟩
  have hb05 : Below w.heap.size w w5 := hb04.trans (hb5.mono hb04.size)
  clear hF4 hb04 hb5
  by_cases hA : Pl.packErr 1 a = 0
  · by_cases hB : Pl.packErr 1 b = 0
    · by_cases hC : Pl.packErr 1 (a ++ b) = 0
      · have HF : Hid (Pl.packOut (a ++ b) = Pl.packOut a ++ Pl.packOut b) := Pl.parts_fine hA hB hC
        rw [hA, hB, hC, HF.out]
        clear hA hB hC
        have hsz := HSZ.out
        generalize Pl.packOut a = sa at *
        generalize Pl.packOut b = sb at *
        go_wp2_with fail
        refine (small_any _).mono ?_
        rintro e w6 ⟨rfl, hb6⟩
        go_wp2
        go_ret
        exact ⟨rfl, hb05.trans (hb6.mono hb05.size)⟩
      · obtain ⟨ja, hja, hlb0, hlt⟩ := Pl.parts_falls hA hB hC
        have hg : (Pl.packErr 1 (a ++ b) != 0) = true := by simp [hC]
        have hg2 : (Pl.packErr 1 (a ++ b) == 0) = false := by simp [hC]
        rw [hA, hB]
        clear hA hB hC
        generalize Pl.packErr 1 (a ++ b) = g at *
        generalize Pl.packOut (a ++ b) = so at *
        generalize Pl.packOut a = sa at *
        generalize Pl.packOut b = sb at *
        rcases HU.out with ⟨_, _, _, h⟩ | ⟨bu, ou, cu, hu, hBu, _, hlcu, hmu, hxu⟩
        · rw [h] at hja; simp at hja
        rcases HV.out with ⟨_, _, _, h⟩ | ⟨bv, ov, cv, hv, hBv, _, hlcv, hmv, hxv⟩
        · rw [h] at hlb0; simp at hlb0
        obtain ⟨cu0, _⟩ := hxu ja (by omega)
        obtain ⟨cv0, _⟩ := hxv 0 hlb0
        rw [Nat.zero_mul, Nat.add_zero] at cv0
        generalize (a.getD ja (0, .empty)).1 = ta at *
        generalize (b.getD 0 (0, .empty)).1 = tb at *
        rw [← hb05.cell (p := ⟨bu, ou + ja * 2, none⟩) hBu] at cu0
        rw [← hb05.cell (p := ⟨bv, ov, none⟩) hBv] at cv0
        obtain ⟨nb, hnb⟩ : ∃ nb, b.length = nb := ⟨_, rfl⟩
        rw [hja] at hu hlcu
        rw [hnb] at hv hlcv hlb0
        subst hu hv
        unfold maxLen at hmu hmv
        have HC : Hid (w5.drew.cell? ⟨bu, ou + ja * 2, none⟩ = some (.int .i64 ta) ∧ w5.drew.cell? ⟨bv, ov, none⟩ = some (.int .i64 tb) ∧ Below w.heap.size w w5.drew) := ⟨cu0, cv0, hb05.drew⟩
        clear hxu hxv hja hnb HU HV HEA HEB HEC HSZ hla hlb
        have k1 : decide (0 < ja + 1) = true := by simp
        have k2 : decide (0 < nb) = true := by simp [hlb0]
        have k3 : (ja : Int) < (cu : Int) := by omega
        have k4 : (0 : Int) < (nb : Int) := by omega
        have k6 : (ja : Int) < (ja : Int) + 1 := by omega
        have k7 : ja < ja + 1 := by omega
        have k8 : (ja : Int) ≤ (ja : Int) := Int.le_refl _
        have k5 : IntKind.i64.wrap (ja : Int) = (ja : Int) := wrap_small ja (by omega)
        go_wp2_with fail
        go_region_held3 (fun w' => w'.cell? ⟨bu, ou + ja * 2, none⟩ = some (.int .i64 ta) ∧ w'.cell? ⟨bv, ov, none⟩ = some (.int .i64 tb) ∧ Below w.heap.size w w') (first | exact HC.out | exact held2_step (by assumption) hBu hBv (by assumption) | go_keep) (first | (go_at_call 8; refine (small_any _).mono ?_; rintro e w6 ⟨rfl, hb6⟩))
        go_wp2
        go_ret
        have hS : w6.cell? ⟨bu, ou + ja * 2, none⟩ = some (.int .i64 ta) ∧ w6.cell? ⟨bv, ov, none⟩ = some (.int .i64 tb) ∧ Below w.heap.size w w6 := by assumption
        exact ⟨rfl, hS.2.2⟩
    · have hb : (Pl.packErr 1 b != 0) = true := by simp [hB]
      have hg : (Pl.packErr 1 (a ++ b) != 0) = true := by simp [Pl.parts_bad (a := a) (b := b) (.inr hB)]
      rw [hA]
      clear hA hB
      generalize Pl.packErr 1 (a ++ b) = g at *
      generalize Pl.packErr 1 b = f at *
      generalize Pl.packOut (a ++ b) = so at *
      generalize Pl.packOut a = sa at *
      generalize Pl.packOut b = sb at *
      go_wp2_with fail
      refine (small_any _).mono ?_
      rintro e w6 ⟨rfl, hb6⟩
      go_wp2
      go_ret
      exact ⟨rfl, hb05.trans (hb6.mono hb05.size)⟩
  · have ha : (Pl.packErr 1 a != 0) = true := by simp [hA]
    have hg : (Pl.packErr 1 (a ++ b) != 0) = true := by simp [Pl.parts_bad (a := a) (b := b) (.inl hA)]
    clear hA
    generalize Pl.packErr 1 (a ++ b) = g at *
    generalize Pl.packErr 1 b = f at *
    generalize Pl.packErr 1 a = d at *
    generalize Pl.packOut (a ++ b) = so at *
    generalize Pl.packOut a = sa at *
    generalize Pl.packOut b = sb at *
    go_wp2_with fail
    refine (small_any _).mono ?_
    rintro e w6 ⟨rfl, hb6⟩
    go_wp2
    go_ret
    exact ⟨rfl, hb05.trans (hb6.mono hb05.size)⟩

/-- What the bound gives of two arguments that are slices of fields. -/
theorem small_two {H : Type} {d0 d1 : DataW H} {a sa b sb : List (Int × ByteArray)}
    (h0 : d0 = .nil ∧ a = [] ∨ d0 = .slice (a.map fun x => .agg [.lit (.int .i64 x.1), .lit (.string x.2.data.toList)]) (sa.map fun x => .agg [.lit (.int .i64 x.1), .lit (.string x.2.data.toList)]))
    (h1 : d1 = .nil ∧ b = [] ∨ d1 = .slice (b.map fun x => .agg [.lit (.int .i64 x.1), .lit (.string x.2.data.toList)]) (sb.map fun x => .agg [.lit (.int .i64 x.1), .lit (.string x.2.data.toList)]))
    (hk : Rows.uptoSmall H [d0, d1] = true) : (Pl.encs a).length + (Pl.encs b).length ≤ 1048576 := by
  have h : Rows.uptoBulkAll [d0, d1] ≤ 1048576 := of_decide_eq_true hk
  have e0 : (Pl.encs ([] : List (Int × ByteArray))).length = 0 := rfl
  rcases h0 with ⟨rfl, rfl⟩ | rfl
  · rcases h1 with ⟨rfl, rfl⟩ | rfl
    · rw [e0]; omega
    · simp only [Rows.uptoBulkAll, Rows.uptoBulk, bulk_fields] at h
      rw [e0]; omega
  · rcases h1 with ⟨rfl, rfl⟩ | rfl
    · simp only [Rows.uptoBulkAll, Rows.uptoBulk, bulk_fields] at h
      rw [e0]; omega
    · simp only [Rows.uptoBulkAll, Rows.uptoBulk, bulk_fields] at h
      omega

theorem cells34 : Try.prog.cellsOf 34 = 2 := by kernel_rfl
theorem cells3 : Try.prog.cellsOf 3 = 1 := by kernel_rfl
theorem cells9 : Try.prog.cellsOf 9 = 1 := by kernel_rfl

set_option maxRecDepth 100000 in
theorem tlvParts_lifted (os : Os) (started : os.Started) (H : Type) (enc : TypeId × Value → H) (F : Stop.Interp) :
    ReturnsInHanded {} Try.checked os 4 .any ((Rows.OpenSpec.upto Rows.tlvPartsSpec).pre6 enc Try.prog Try.f4 Rows.tlvPartsUptoRow.domain false) (((Rows.OpenSpec.upto Rows.tlvPartsSpec).at F).post enc Try.prog Try.f4 false true false false) := by
  refine returnsInHanded_of_cond (C := Try.checked) (s := Rows.OpenSpec.upto Rows.tlvPartsSpec) (k := Rows.uptoSmall) rfl own started (by kernel_rfl) Try.func4
    (OpenSpec.witness (enc := enc) (C := Try.checked) (s := Rows.OpenSpec.upto Rows.tlvPartsSpec) (k := Rows.uptoSmall) rfl false ⟨#[], #[.slice none 0 0, .slice none 0 0], []⟩ 8 (by kernel_rfl) (by kernel_rfl) (by kernel_rfl)
      (x := ([.nil, .nil], [], [])) (by kernel_rfl) rfl (by kernel_rfl)) ?_
  intro W base args ds gs before hval0 hW _ hk _
  have hval : ∀ (j : Nat) t v, Try.f4.params[j]? = some t → args[j]? = some v → Value.okWide Try.prog W .any base t v := hval0
  have hW' := hW
  obtain ⟨p, q, hA0, hV, rfl, hfz, hnd⟩ := hW
  have hA : DataW.TrodAll enc Try.prog W 0 (fun _ => true) true Try.f4.params.toList args.toList ds p := hA0
  rw [Try.params4] at hA hval
  obtain ⟨v0, v1, d0, d1, p0, p1, rfl, rfl, rfl, h0, h1⟩ := trodAll_two hA
  obtain ⟨rfl, rfl⟩ := trodVars_none hV
  have hlt0 : ∀ x ∈ p0, x.block < W.heap.size := fun x hx => hW'.lt x (by simp [hx])
  have hlt1 : ∀ x ∈ p1, x.block < W.heap.size := fun x hx => hW'.lt x (by simp [hx])
  obtain ⟨a, sa, ha, hoka, hda⟩ := open_fields Try.underlying22 Try.underlying34 cells34 rfl rfl cells3 cells9 Try.underlying3 Try.underlying9 (okWide_slice Try.underlying22 (hval 0 22 v0 rfl rfl)) hlt0 h0
  obtain ⟨b, sb, hb, hokb, hdb⟩ := open_fields Try.underlying22 Try.underlying34 cells34 rfl rfl cells3 cells9 Try.underlying3 Try.underlying9 (okWide_slice Try.underlying22 (hval 1 22 v1 rfl rfl)) hlt1 h1
  refine (parts_any v0 v1 a b W ha hb (small_two hda hdb hk)).mono fun e W' ⟨he, hg⟩ => ⟨_, he, ?_⟩
  exact Law.post laidOut (by kernel_rfl) rfl Try.underlying4 hW' rfl rfl hg

theorem tlvPartsUpto_holds : Rows.TlvPartsUptoSaid :=
  OpenClaim.holds_of_cond 4 Try.f4 rfl rfl rfl rfl rfl rfl rfl ⟨rfl, rfl, rfl, rfl, rfl⟩ rfl rfl rfl rfl rfl (by kernel_rfl) Try.func4 (by kernel_rfl)
    (of_decide_eq_true (by kernel_rfl)) (by unfold Func.isWrapper; first | (rw [if_pos (by decide +kernel)]; kernel_rfl) | (rw [if_neg (by decide +kernel)]; exact ⟨rfl, rfl⟩))
    (fun os started H enc _ F => tlvParts_lifted os started H enc F)
#print axioms tlvPartsUpto_holds
end Go.Proofs.Ytdgainpbaphniab
