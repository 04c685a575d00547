/-
  OpensLeast: for every list of open files, every client and every handle the call answers true, and the arguments read as before. No condition.
-/
import Derived.Test.YtlikcijoejgkkaaRefO
import Derived.Test.YtlikcijoejgkkaaTwo
import Derived.Test.YtlikcijoejgkkaaPlainB
import Derived.Test.YtlikcijoejgkkaaOpenA
import Derived.Test.YtlikcijoejgkkaaLaw
namespace Go.Proofs.Ytlikcijoejgkkaa
open Go.ChangeShapes Go.WideShapes Go.ChangeAt Go.RowKit Go.Deep
set_option maxHeartbeats 8000000 in
theorem least_any (v : Value) (l : List Opn) (c no gen : Int) (w : World) (hv : AtW EO w v l) :
    Calls Try.prog 7 #[v, .int .i64 c, VH no gen] w fun e w' => e = .returned (.bool true) ∧ Below w.heap.size w w' := by
  have hv0 := hv
  obtain ⟨ao, cap, rfl, hm, hx⟩ := hv0.open
  clear hv0
  unfold maxLen at hm
  obtain ⟨m, hlm⟩ : ∃ m, l.length = m := ⟨_, rfl⟩
  rw [hlm] at hm hv ⊢
  have HLM : Hid (l.length = m) := hlm
  have HX : Hid (Over w ao l) := hx
  have HA0 : Hid ((w.alloc (BH no gen)).heap[w.heap.size]? = some (BH no gen)) := heap_alloc_new w (BH no gen)
  have HB0 : Hid (Below w.heap.size w (w.alloc (BH no gen))) := (Below.refl _ w).alloc (Nat.le_refl _) _
  have HV0 : Hid (AtW EO (w.alloc (BH no gen)) (.slice ao m cap) l) := hv.up HB0.out
  obtain ⟨h0, h1⟩ := hand_of HA0.out
  clear hv hlm hx
  by_cases he : Op.openErr l c no gen = 407
  · have HE : Hid (Op.openErr l c no gen = 407) := he
    have HP : Hid (Op.opened l c no gen = []) := if_neg (by rw [he]; decide)
    have HFU : Hid (Op.right 0 l = true ∧ l.length = 16) := by
      rcases Op.open_or l c no gen with ⟨h, _⟩ | ⟨h, ha⟩ | ⟨h, _, _⟩ | ⟨h, _, hr, _, hl⟩
      · rw [he] at h; cases h
      · rcases Op.ask_or l c with ⟨h', _⟩ | ⟨h', _⟩ | ⟨h', _⟩ <;> rw [he, h'] at h <;> cases h
      · rw [he] at h; cases h
      · exact ⟨hr, hl⟩
    obtain rfl : m = 16 := HLM.out.symm.trans HFU.out.2
    clear he
    go_enter Try.func7, Try.ntmps7
    go_wp2_with fail
    refine (open_any _ l c no gen _ HV0.out).mono ?_
    rintro e w1 ⟨p1, n1, q1, rfl, hu1, hb1⟩
    rw [HE.out]
    rw [HP.out] at hu1
    obtain rfl : n1 = 0 := hu1.lenq
    have HB1 : Hid (Below w.heap.size w w1) := HB0.out.trans (hb1.mono HB0.out.size)
    clear hu1 hb1 h0 h1
    go_wp2
    go_loopw [30] (fun i wr => ∃ (k : Nat), k ≤ 16 ∧ i = .int .i64 k ∧ Hid (Below w.heap.size w wr)) (fun i _ => 16 - (intOf i).toNat)
    case atStart => exact ⟨0, Nat.zero_le _, rfl, HB1⟩
    case round =>
      obtain ⟨k, hk, rfl, HB⟩ := hrel
      have hsz := HB.out.size
      by_cases hlt : k < 16
      · obtain ⟨x, hxk⟩ : ∃ x, l[k]? = some x := ⟨_, List.getElem?_eq_getElem (by rw [HLM.out]; exact hlt)⟩
        have hxf := Op.full_all HFU.out.1 HFU.out.2 hxk
        obtain ⟨b, off, rfl, -, hB, hc⟩ := HX.out k x hxk
        obtain ⟨c0, c1, c2, c3⟩ := opn_cells HB.out hB hc
        clear hc hxk
        rw [hxf] at c0
        have hlt' : (k : Int) < (16 : Int) := by omega
        have HB2 : Hid (Below w.heap.size w (wr.alloc (.cells #[.int .i64 (k : Int), .int .i64 x.2.1, .int .i64 x.2.2.1, .int .i64 x.2.2.2] 27))) := HB.out.alloc hsz _
        clear hxf
        go_wp2
        go_roundw
        case rel => exact ⟨k + 1, by omega, by go_num, HB2⟩
        case measure => simp [intOf]; omega
      · have hlt' : ¬ (k : Int) < (16 : Int) := by omega
        go_wp2_with fail
        refine (two_any _).mono ?_
        rintro e w8 ⟨rfl, hb8⟩
        have HB8 : Hid (Below w.heap.size w w8) := HB.out.trans (hb8.mono HB.out.size)
        clear hb8
        go_wp2
        go_ret
        exact ⟨rfl, HB8.out⟩
  by_cases he0 : Op.openErr l c no gen = 0
  · have HE : Hid (Op.openErr l c no gen = 0) := he0
    obtain ⟨-, hr, -, -, hl16, -, hf⟩ := Op.op_facts he0
    have HR : Hid (Op.right 0 l = true) := hr
    have hfl := Op.least_in l
    obtain ⟨f, hff⟩ : ∃ f, Op.least 0 l = f := ⟨_, rfl⟩
    rw [hff] at hf hfl
    have HF : Hid (Op.openFd l c no gen = (f : Int)) := hf
    have HL : Hid (Op.least 0 l = f) := hff
    have hf16 : f < 16 := by omega
    clear he he0 hr hf hff hfl hl16
    go_enter Try.func7, Try.ntmps7
    go_wp2_with fail
    refine (open_any _ l c no gen _ HV0.out).mono ?_
    rintro e w1 ⟨p1, n1, q1, rfl, hu1, hb1⟩
    rw [HE.out, HF.out]
    have HB1 : Hid (Below w.heap.size w w1) := HB0.out.trans (hb1.mono HB0.out.size)
    clear hu1 hb1 h0 h1
    go_wp2
    go_loopw [12] (fun i wr => ∃ (k : Nat), k ≤ f ∧ i = .int .i64 k ∧ Hid (Below w.heap.size w wr)) (fun i _ => f - (intOf i).toNat)
    case atStart => exact ⟨0, Nat.zero_le _, rfl, HB1⟩
    case round =>
      obtain ⟨k, hk, rfl, HB⟩ := hrel
      by_cases hkf : k < f
      · have hkf' : (k : Int) < (f : Int) := by omega
        have HUS : Hid (Op.used l k = true) := Op.used_low (by rw [HL.out]; exact hkf)
        obtain ⟨wo, hwo⟩ : ∃ wo, wo = wr := ⟨_, rfl⟩
        have HBO : Hid (Below w.heap.size w wo) := by rw [hwo]; exact HB
        clear HB
        subst hwo
        go_wp2
        go_loopw [13, 66] (fun t i wr => ∃ (j : Nat) (fb : Bool), j ≤ m ∧ i = .int .i64 j ∧ t = .bool fb ∧ Hid (fb = Op.used (l.take j) k) ∧ Hid (Below wo.heap.size wo wr)) (fun _ i _ => m - (intOf i).toNat)
        case atStart => exact ⟨0, false, Nat.zero_le _, rfl, rfl, rfl, Below.refl _ _⟩
        case round =>
          obtain ⟨j, fb, hj, rfl, rfl, HF2, HB⟩ := hrel
          have hsz := HB.out.size
          have HB3 : Hid (Below w.heap.size w wr) := HBO.out.trans (HB.out.mono HBO.out.size)
          by_cases hlt : j < m
          · obtain ⟨x, hxk⟩ : ∃ x, l[j]? = some x := ⟨_, List.getElem?_eq_getElem (by rw [HLM.out]; exact hlt)⟩
            have HU : Hid (Op.used (l.take (j + 1)) k = (Op.used (l.take j) k || x.1 == (k : Int))) := Op.used_in hxk
            obtain ⟨b, off, rfl, -, hB, hc⟩ := HX.out j x hxk
            obtain ⟨c0, c1, c2, c3⟩ := opn_cells HB3.out hB hc
            clear hc hxk
            have hlt' : (j : Int) < (m : Int) := by omega
            cases fb with
            | true =>
              go_wp2
              go_roundw
              case rel => exact ⟨j + 1, true, by omega, by go_num, rfl, by rw [HU.out, ← HF2.out]; rfl, HB.out.alloc hsz _⟩
              case measure => simp [intOf]; omega
            | false =>
              obtain ⟨ee, hee⟩ : ∃ ee, (x.1 == (k : Int)) = ee := ⟨_, rfl⟩
              have HEE : Hid ((x.1 == (k : Int)) = ee) := hee
              cases ee with
              | true =>
                go_wp2
                go_roundw
                case rel => exact ⟨j + 1, true, by omega, by go_num, rfl, by rw [HU.out, ← HF2.out, HEE.out]; rfl, HB.out.alloc hsz _⟩
                case measure => simp [intOf]; omega
              | false =>
                go_wp2
                go_roundw
                case rel => exact ⟨j + 1, false, by omega, by go_num, rfl, by rw [HU.out, ← HF2.out, HEE.out]; rfl, HB.out.alloc hsz _⟩
                case measure => simp [intOf]; omega
          · obtain rfl : j = m := by omega
            have hfb : fb = true := by
              have := HF2.out
              rw [← HLM.out, List.take_length, HUS.out] at this
              exact this
            subst hfb
            go_wp2
            go_roundw
            case rel => exact ⟨k + 1, by omega, by go_num, HB3⟩
            case measure => simp [intOf]; omega
      · obtain rfl : f = k := by omega
        have hkf' : ¬ (f : Int) < (f : Int) := by omega
        obtain ⟨wo, hwo⟩ : ∃ wo, wo = wr := ⟨_, rfl⟩
        have HBO : Hid (Below w.heap.size w wo) := by rw [hwo]; exact HB
        clear HB
        subst hwo
        go_wp2
        go_loopw [82] (fun i wr => ∃ (j : Nat), j ≤ m ∧ i = .int .i64 j ∧ Hid (Below w.heap.size w wr)) (fun i _ => m - (intOf i).toNat)
        case atStart => exact ⟨0, Nat.zero_le _, rfl, HBO⟩
        case round =>
          obtain ⟨j, hj, rfl, HB⟩ := hrel
          have hsz := HB.out.size
          by_cases hlt : j < m
          · obtain ⟨x, hxk⟩ : ∃ x, l[j]? = some x := ⟨_, List.getElem?_eq_getElem (by rw [HLM.out]; exact hlt)⟩
            have hne : (x.1 == (f : Int)) = false := by
              have h1 := Op.used_least HR.out
              rw [HL.out] at h1
              have h2 := List.any_eq_false.1 h1 x (List.mem_of_getElem? hxk)
              simpa using h2
            obtain ⟨b, off, rfl, -, hB, hc⟩ := HX.out j x hxk
            obtain ⟨c0, c1, c2, c3⟩ := opn_cells HB.out hB hc
            clear hc hxk
            have hlt' : (j : Int) < (m : Int) := by omega
            go_wp2
            go_roundw
            case rel => exact ⟨j + 1, by omega, by go_num, HB.out.alloc hsz _⟩
            case measure => simp [intOf]; omega
          · obtain rfl : j = m := by omega
            have hf0 : (0 : Int) ≤ (f : Int) := by omega
            have hf1 : (f : Int) < 16 := by omega
            go_wp2_with fail
            refine (two_any _).mono ?_
            rintro e w8 ⟨rfl, hb8⟩
            have HB8 : Hid (Below w.heap.size w w8) := HB.out.trans (hb8.mono HB.out.size)
            clear hb8
            go_wp2
            go_ret
            exact ⟨rfl, HB8.out⟩
  · have HP : Hid (Op.opened l c no gen = []) := if_neg he0
    obtain ⟨er, her⟩ : ∃ er, Op.openErr l c no gen = er := ⟨_, rfl⟩
    have HER : Hid (Op.openErr l c no gen = er) := her
    rw [her] at he he0
    have hne : (er == 0) = false := beq_eq_false_iff_ne.2 he0
    have hne2 : (er == 407) = false := beq_eq_false_iff_ne.2 he
    clear he he0 her
    go_enter Try.func7, Try.ntmps7
    go_wp2_with fail
    refine (open_any _ l c no gen _ HV0.out).mono ?_
    rintro e w1 ⟨p1, n1, q1, rfl, hu1, hb1⟩
    rw [HER.out]
    rw [HP.out] at hu1
    obtain rfl : n1 = 0 := hu1.lenq
    have HB1 : Hid (Below w.heap.size w w1) := HB0.out.trans (hb1.mono HB0.out.size)
    clear hu1 hb1 h0 h1
    go_wp2_with fail
    refine (two_any _).mono ?_
    rintro e w8 ⟨rfl, hb8⟩
    have HB8 : Hid (Below w.heap.size w w8) := HB1.out.trans (hb8.mono HB1.out.size)
    clear hb8
    go_wp2
    go_ret
    exact ⟨rfl, HB8.out⟩

set_option maxRecDepth 100000 in
theorem opensLeast_lifted (os : Os) (started : os.Started) (H : Type) (enc : TypeId × Value → H) :
    ReturnsInHanded {} Try.checked os 7 .any (Rows.opensLeastSpec.pre6 enc Try.prog Try.f7 Rows.opensLeastRow.domain false) (Rows.opensLeastSpec.post enc Try.prog Try.f7 false true false false) := by
  refine returnsInHanded_of_change_sized (C := Try.checked) own started (by kernel_rfl) Try.func7
    (ChangeSpec.witness6 (enc := enc) (C := Try.checked) false ⟨#[], #[.slice none 0 0, .int .i64 0, .agg #[.int .i64 0, .int .i64 0]], []⟩ 8 (by kernel_rfl) (by kernel_rfl) (by kernel_rfl) (by kernel_rfl)) ?_
  intro W base args ds gs before hval0 hW hcnd hsized _
  have hval : ∀ (j : Nat) t v, Try.f7.params[j]? = some t → args[j]? = some v → Value.okWide Try.prog W .any base t v := hval0
  have hW' := hW
  have hlt : ∀ x ∈ before, x.block < W.heap.size := fun x hx => by simpa using hW'.lt x hx
  obtain ⟨p, q, hA0, hV, rfl, hfz, hnd⟩ := hW
  have hA : DataW.TrodAll enc Try.prog W 0 (fun _ => true) true Try.f7.params.toList args.toList ds p := hA0
  rw [Try.params7] at hA hval
  obtain ⟨v0, v1, v2, d0, d1, d2, p0, p1, p2, rfl, rfl, rfl, h0, h1, h2⟩ := trodAll_three hA
  obtain ⟨rfl, rfl⟩ := trodVars_none hV
  have hwt0 : ∀ n ∈ d0.weights Try.prog 22, n ≤ reachBytes := fun n hn => by
    have := List.all_eq_true.1 hsized n (DataW.weights_mem_each (j := 0) (t := 22) (d := d0) rfl rfl n hn)
    simpa using this
  obtain ⟨l, hl, hln⟩ := open_opens (okWide_slice Try.underlying22 (hval 0 22 v0 rfl rfl)) h0 hwt0
  obtain ⟨c, rfl, -, -, -⟩ := open_int Try.underlying3 (hval 1 3 v1 rfl rfl) h1
  obtain ⟨no, gen, rfl⟩ := open_handle (hval 2 24 v2 rfl rfl) h2
  refine (least_any v0 l c no gen W hl).mono fun e W' ⟨he, hg⟩ => ⟨_, he, ?_⟩
  exact Law.post laidOut (by kernel_rfl) rfl Try.underlying4 hW' rfl rfl hg

theorem opensLeast_holds : Rows.OpensLeastSaid :=
  OpenClaim.holds_of_wide 7 Try.f7 rfl rfl rfl rfl rfl rfl rfl ⟨rfl, rfl, rfl, rfl, rfl⟩ rfl rfl rfl rfl rfl (by kernel_rfl) Try.func7 (by kernel_rfl)
    (of_decide_eq_true (by kernel_rfl)) (by unfold Func.isWrapper; first | (rw [if_pos (by decide +kernel)]; kernel_rfl) | (rw [if_neg (by decide +kernel)]; exact ⟨rfl, rfl⟩))
    (fun os started H enc _ => opensLeast_lifted os started H enc)
#print axioms opensLeast_holds
end Go.Proofs.Ytlikcijoejgkkaa
