/-
  For any two slices of items and any int sextonlaw05.OplogPuts returns true, whatever the memory: what is put behind an operation is told behind it, and all ahead is as it was. No condition.
-/
import Derived.Test.YtibndhaelmnhmaaPutsA
import Derived.Test.YtibndhaelmnhmaaLaw
import Derived.SizedLaws
import Derived.Deep.RegionWith
namespace Go.Proofs.Ytibndhaelmnhmaa
open Go.ChangeShapes Go.WideShapes Go.ChangeAt Go.RowKit

theorem Row.upto {w : World} {B n c : Nat} {e : TypeId} {p : Option Addr} {ls : List Ol.It} (h : Row w B e (.slice p n c) ls) {k : Nat} (hk : k ≤ ls.length) : ItemsAt w (.slice p k c) (ls.take k) := by
  rcases h with ⟨he, rfl⟩ | ⟨g, off, cap, cur, he, hr⟩
  · have : k = 0 := by simpa using hk
    subst this
    exact .inl ⟨_, _, rfl, rfl⟩
  · simp only [Value.slice.injEq] at he
    obtain ⟨rfl, rfl, rfl⟩ := he
    exact (Row.take (.inr ⟨g, off, c, cur, rfl, hr⟩) hk (Nat.le_trans hk hr.2.2.1) (Nat.le_refl _)).items
set_option maxHeartbeats 400000 in
theorem puts_long (p : Option Addr) (m cap : Nat) (n : Int) (v2 : Value) (w : World) (h : 256 < m) : Calls Try.prog 5 #[.slice p m cap, .int .i64 n, v2] w fun e w' => e = .returned (.bool true) ∧ Below w.heap.size w w' := by
  have h' : (256 : Int) < (m : Int) := by omega
  go_enter Try.func5, Try.ntmps5
  go_wp2_with fail
  refine (new_ok (n := 0) _ (by decide) (by decide)).mono ?_
  rintro e w1 ⟨s, rfl, hs, hl, hg⟩
  have HB1 : Hid (Below w.heap.size w w1) := below_none hg (Nat.le_refl _)
  clear hs hl hg
  go_wp2_with fail
  refine (two_any _).mono ?_
  rintro e w2 ⟨rfl, hg⟩
  have HB2 : Hid (Below w.heap.size w w2) := HB1.out.trans (below_none hg HB1.out.size)
  clear hg
  go_wp2
  go_ret
  exact ⟨rfl, HB2.out⟩
set_option maxHeartbeats 1000000 in
set_option maxRecDepth 100000 in
theorem puts_go (v1 v2 : Value) (l m : List Ol.It) (n : Int) (w : World) (h1 : ItemsAt w v1 l) (h2 : ItemsAt w v2 m) (hl : l.length ≤ 256) (hsz : m.length ≤ 4611686018427387904) : Calls Try.prog 5 #[v1, .int .i64 n, v2] w fun e w' => e = .returned (.bool true) ∧ Below w.heap.size w w' := by
  obtain ⟨ao, ca, rfl, _, hx⟩ := h1.open
  have HX : Hid (∀ wr, Below w.heap.size w wr → ∀ j, j < l.length → ∃ b off, ao = some ⟨b, off, none⟩ ∧ b < wr.heap.size ∧ fourAt wr b (off + j * 4) (l.getD j Ol.d0)) := fun wr hw j hj => by
    obtain ⟨b, off, e, hb, hf⟩ := hx j hj
    exact ⟨b, off, e, Nat.lt_of_lt_of_le hb hw.size, hf.below hw hb⟩
  have H2 : Hid (ItemsAt w v2 m) := h2
  obtain ⟨bo, cb, rfl, _, _⟩ := h2.open
  have hl' : ¬ (256 : Int) < (l.length : Int) := by omega
  have hlI : (l.length : Int) ≤ 256 := by omega
  have hszI : (m.length : Int) ≤ 4611686018427387904 := by omega
  have HSZ : Hid (m.length ≤ 4611686018427387904) := hsz
  clear hx h1 h2 hl hsz
  go_enter Try.func5, Try.ntmps5
  go_wp2_with fail
  refine (new_ok (n := 0) _ (by decide) (by decide)).mono ?_
  rintro e w1 ⟨s, rfl, hs, hl1, hg⟩
  have HS : Hid (w.heap.size ≤ s) := hs
  have HL1 : Hid (LogAt w1 s 0 (.slice none 0 0) []) := hl1
  have HB1 : Hid (Below w.heap.size w w1) := below_none hg (Nat.le_refl _)
  clear hs hl1 hg
  go_wp2
  go_loopw [42] (fun i wr => ∃ (j : Nat) (v : Value) (ls : List Ol.It), j ≤ l.length ∧ i = .int .i64 j ∧ Hid (LogAt wr s 0 v ls) ∧ Hid (Below w.heap.size w wr)) (fun i _ => l.length - (intOf i).toNat)
  case atStart => exact ⟨0, _, _, Nat.zero_le _, rfl, HL1.out, HB1.out⟩
  case round =>
    obtain ⟨j, v, ls, hj, rfl, HL, HB⟩ := hrel
    by_cases hlt : j < l.length
    · obtain ⟨b, off, rfl, hb, c0, c1, c2, c3⟩ := HX.out wr HB.out j hlt
      have hltI : (j : Int) < (l.length : Int) := by omega
      generalize l.getD j Ol.d0 = x at *
      obtain ⟨x0, x1, x2, x3⟩ := x
      simp only at c0 c1 c2 c3
      have HL' : Hid (LogAt (wr.alloc (B4 x0 x1 x2 x3)) s 0 v ls) := HL.out.still (World.grownBy_alloc _ _ _)
      have HB' : Hid (Below w.heap.size w (wr.alloc (B4 x0 x1 x2 x3))) := HB.out.trans (below_none (World.grownBy_alloc _ _ _) HB.out.size)
      go_wp2_with fail
      refine Calls.mono (show Calls Try.prog 18 #[.pointer (some ⟨s, 0, none⟩), .agg #[.int .i64 x0, .int .i64 x1, .int .i64 x2, .string x3]] _ _ from add_some (x0, x1, x2, x3) _ HL'.out) ?_
      rintro e w2 ⟨a, b, v', ls', rfl, hl2, ht⟩
      have HL2 : Hid (LogAt w2 s 0 v' ls') := hl2
      have HB2 : Hid (Below w.heap.size w w2) := HB'.out.trans (HL'.out.below ht HS.out)
      clear hl2 ht
      go_wp2
      go_roundw
      case rel => exact ⟨j + 1, v', ls', by omega, by go_num, HL2.out, HB2.out⟩
      case measure => simp [intOf]; omega
    · obtain rfl : j = l.length := by omega
      have HL1 : Hid True := trivial
      clear HL1
      have hls := HL.out.good.len
      have hlsI : (ls.length : Int) ≤ 256 := by omega
      go_wp2_with fail
      refine (behind_all 256 _ HL.out (by decide) (by decide)).mono ?_
      rintro e w2 ⟨p, c, rfl, hrow, hg⟩
      have HL2 : Hid (LogAt w2 s 0 v ls) := HL.out.still hg
      have HB2 : Hid (Below w.heap.size w w2) := HB.out.trans (below_none hg HB.out.size)
      have HR2 : Hid (Row w2 wr.heap.size 32 (.slice p ls.length c) ls) := hrow
      have HV : Hid (s < wr.heap.size ∧ ∀ j, v.ownBlock = some j → j < wr.heap.size) := ⟨HL.out.lt, fun j hj => (HL.out.row.lt j hj).2⟩
      clear hrow hg
      go_wp2_with fail
      refine (put_some n _ m _ HL2.out (H2.out.below HB2.out (Nat.le_refl _)) HSZ.out).mono ?_
      rintro e w3 (⟨f, rfl, hf, hl3, ht⟩ | ⟨k, v', rfl, hk, hkl, hl3, ht⟩)
      · have HL3 : Hid (LogAt w3 s 0 v ls) := hl3
        have HB3 : Hid (Below w.heap.size w w3) := HB2.out.trans (HL2.out.below ht HS.out)
        have HR3 : Hid (ItemsAt w3 (.slice p ls.length c) ls) := (HR2.out.turns ht HV.out.1 HV.out.2).items
        clear hl3 ht
        go_wp2_with fail
        refine (behind_all 600 _ HL3.out (by decide) (by decide)).mono ?_
        rintro e w4 ⟨p', c', rfl, hrow, hg⟩
        have HB4 : Hid (Below w.heap.size w w4) := HB3.out.trans (below_none hg HB3.out.size)
        have HR4 : Hid (ItemsAt w4 (.slice p' ls.length c') ls) := hrow.items
        have HR4' : Hid (ItemsAt w4 (.slice p ls.length c) ls) := HR3.out.below (below_none hg (Nat.le_refl _)) (Nat.le_refl _)
        clear hrow hg
        go_wp2_with fail
        refine (items_same _ _ ls _ HR4'.out HR4.out).mono ?_
        rintro e w5 ⟨rfl, hg⟩
        have HB5 : Hid (Below w.heap.size w w5) := HB4.out.trans (below_none hg HB4.out.size)
        clear hg
        go_wp2_with fail
        refine (two_any _).mono ?_
        rintro e w6 ⟨rfl, hg⟩
        have HB6 : Hid (Below w.heap.size w w6) := HB5.out.trans (below_none hg HB5.out.size)
        clear hg
        go_wp2
        go_ret
        exact ⟨rfl, HB6.out⟩
      · subst hk
        have HL3 : Hid (LogAt w3 s 0 v' (ls.take k ++ m)) := hl3
        have HB3 : Hid (Below w.heap.size w w3) := HB2.out.trans (HL2.out.below ht HS.out)
        have HR3 : Hid (Row w3 wr.heap.size 32 (.slice p ls.length c) ls) := HR2.out.turns ht HV.out.1 HV.out.2
        have HK : Hid (k ≤ ls.length) := hkl
        clear hl3 ht
        go_wp2_with fail
        refine (behind_all 600 _ HL3.out (by decide) (by decide)).mono ?_
        rintro e w4 ⟨p', c', rfl, hrow, hg⟩
        have HB4 : Hid (Below w.heap.size w w4) := HB3.out.trans (below_none hg HB3.out.size)
        have HR4 : Hid (Row w4 w3.heap.size 32 (.slice p' (ls.take k ++ m).length c') (ls.take k ++ m)) := hrow
        have HR4' : Hid (Row w4 wr.heap.size 32 (.slice p ls.length c) ls) := HR3.out.still hg
        have hlen : ((ls.take k ++ m).length : Int) = (k : Int) + (m.length : Int) := by simp; omega
        have hkI : (k : Int) ≤ (ls.length : Int) := by omega
        have hcap : ls.length ≤ c := by
          rcases HR4'.out with ⟨he, h0⟩ | ⟨g, off, cap, cur, he, _, _, h1, _⟩
          · rw [h0]; simp
          · simp only [Value.slice.injEq] at he; omega
        have hcap' : (ls.take k ++ m).length ≤ c' := by
          rcases HR4.out with ⟨he, h0⟩ | ⟨g, off, cap, cur, he, _, _, h1, _⟩
          · rw [h0]; simp
          · simp only [Value.slice.injEq] at he; omega
        have k1 : (k : Int) ≤ (c : Int) := by omega
        have k2 : (k : Int) ≤ (c' : Int) := by omega
        have k3 : (k : Int) ≤ ((ls.take k ++ m).length : Int) := by omega
        have HLN : Hid ((ls.take k ++ m).length = k + m.length ∧ ls.length ≤ c ∧ (ls.take k ++ m).length ≤ c') := ⟨by omega, hcap, hcap'⟩
        clear hrow hg hcap hcap'
        have etk : (ls.take k ++ m).take k = ls.take k := by
          exact List.take_left' (by simp; omega)
        have HI1 : Hid (ItemsAt w4.drew (.slice p' k c') (ls.take k)) := by
          have := HR4.out.upto (k := k) (by have := HLN.out; omega)
          rw [etk] at this
          exact this
        have HI2 : Hid (ItemsAt w4.drew (.slice p k c) (ls.take k)) := HR4'.out.upto HK.out
        clear etk
        have H2' : Hid (∀ W, w4.drew.grownBy W none → ItemsAt W (.slice bo m.length cb) m) := fun W hW => H2.out.below (HB4.out.trans (below_none (grown_trans (grown_drew (grown_refl w4 none) 1) hW) HB4.out.size)) (Nat.le_refl _)
        have edr : (ls.take k ++ m).drop k = m := by
          exact List.drop_left' (by simp; omega)
        rcases HR4.out with ⟨he, h0⟩ | ⟨g, off, cap, cur, he, hr⟩
        · simp only [Value.slice.injEq] at he
          obtain ⟨rfl, hl0, rfl⟩ := he
          have hm0 : m.length = 0 := by have := HLN.out; omega
          have hk0 : k = 0 := by have := HLN.out; omega
          subst hk0
          obtain rfl : m = [] := List.eq_nil_of_length_eq_zero hm0
          clear edr hl0 HI1 HI2 hm0
          go_wp2
          go_region_with (first | (go_at_call 23; have hg5' := hg5; refine (items_same _ _ [] _ (.inl ⟨_, _, rfl, rfl⟩) (.inl ⟨_, _, rfl, rfl⟩)).mono ?_; rintro e w6 ⟨rfl, hg6⟩) | (go_at_call 23; refine (items_same _ _ [] _ (.inl ⟨_, _, rfl, rfl⟩) (.inl ⟨_, _, rfl, rfl⟩)).mono ?_; rintro e w5 ⟨rfl, hg5⟩) | (go_at_call 9; refine (two_any _).mono ?_; rintro e w7 ⟨rfl, hg7⟩))
          all_goals
            have HBE : Hid (Below w.heap.size w w7) := HB4.out.trans (below_none (grown_trans (grown_drew (grown_refl w4 none) 1) (grown_trans hg5 (grown_trans hg6 hg7))) HB4.out.size)
            clear hg5 hg6 hg7
            go_wp2
            go_ret
            exact ⟨rfl, HBE.out⟩
        · simp only [Value.slice.injEq] at he
          obtain ⟨rfl, hLe, rfl⟩ := he
          by_cases hkc : k = c'
          · have hm0 : m.length = 0 := by have := HLN.out; omega
            obtain rfl : m = [] := List.eq_nil_of_length_eq_zero hm0
            have hLk : (ls.take k ++ ([] : List Ol.It)).length = k := by have := HLN.out; simp at this ⊢; omega
            generalize (ls.take k ++ ([] : List Ol.It)).length = L at *
            clear hLe hlen
            subst hLk
            subst hkc
            clear edr hr hm0
            go_wp2
            go_region_with (first | (go_at_call 23; have hg5' := hg5; refine (items_same _ _ [] _ (.inl ⟨_, _, rfl, rfl⟩) (.inl ⟨_, _, rfl, rfl⟩)).mono ?_; rintro e w6 ⟨rfl, hg6⟩) | (go_at_call 23; refine (items_same (.slice (some ⟨g, off, none⟩) L L) (.slice p L c) (ls.take L) w4.drew HI1.out HI2.out).mono ?_; rintro e w5 ⟨rfl, hg5⟩) | (go_at_call 9; refine (two_any _).mono ?_; rintro e w7 ⟨rfl, hg7⟩))
            all_goals
              have HBE : Hid (Below w.heap.size w w7) := HB4.out.trans (below_none (grown_trans (grown_drew (grown_refl w4 none) 1) (grown_trans hg5 (grown_trans hg6 hg7))) HB4.out.size)
              clear hg5 hg6 hg7
              go_wp2
              go_ret
              exact ⟨rfl, HBE.out⟩
          · have hmL : (ls.take k ++ m).length - k = m.length := by have := HLN.out; omega
            have HD : Hid (ItemsAt w4 (.slice (some ⟨g, off + k * 4, none⟩) ((ls.take k ++ m).length - k) (c' - k)) m) := by
              have h3 := (HR4.out.drop (k := k) (c := c' - k) (by have := HLN.out; omega) (by have := HLN.out; omega) (by have := HLN.out; omega)).items
              rw [edr] at h3
              exact h3
            generalize (ls.take k ++ m).length = L at *
            have HI3 : Hid (∀ W : World, w4.drew.grownBy W none → ItemsAt W (.slice (some ⟨g, off + k * 4, none⟩) (L - k) (c' - k)) m) := fun W hW => HD.out.below (below_none (grown_trans (grown_drew (grown_refl w4 none) 1) hW) (Nat.le_refl _)) (Nat.le_refl _)
            have hkn : ¬ c' - k = 0 := by have := HLN.out; omega
            have hkl' : k < c' := by have := HLN.out; omega
            have hkl2 : ¬ c' ≤ k := by omega
            clear edr hr HD hmL
            go_wp2
            go_region_with (first | (go_at_call 23; have hg5' := hg5; refine (items_same (.slice (some ⟨g, off + k * 4, none⟩) (L - k) (c' - k)) (.slice bo m.length cb) m w5 (HI3.out w5 hg5) (H2'.out w5 hg5)).mono ?_; rintro e w6 ⟨rfl, hg6⟩) | (go_at_call 23; refine (items_same (.slice (some ⟨g, off, none⟩) k c') (.slice p k c) (ls.take k) w4.drew HI1.out HI2.out).mono ?_; rintro e w5 ⟨rfl, hg5⟩) | (go_at_call 9; refine (two_any _).mono ?_; rintro e w7 ⟨rfl, hg7⟩))
            all_goals
              have HBE : Hid (Below w.heap.size w w7) := HB4.out.trans (below_none (grown_trans (grown_drew (grown_refl w4 none) 1) (grown_trans hg5 (grown_trans hg6 hg7))) HB4.out.size)
              clear hg5 hg6 hg7
              go_wp2
              go_ret
              exact ⟨rfl, HBE.out⟩

theorem puts_any (v1 v2 : Value) (l m : List Ol.It) (n : Int) (w : World) (h1 : ItemsAt w v1 l) (h2 : ItemsAt w v2 m) (hsz : m.length ≤ 4611686018427387904) : Calls Try.prog 5 #[v1, .int .i64 n, v2] w fun e w' => e = .returned (.bool true) ∧ Below w.heap.size w w' := by
  by_cases hl : l.length ≤ 256
  · exact puts_go v1 v2 l m n w h1 h2 hl hsz
  · obtain ⟨ao, ca, rfl, _, _⟩ := h1.open
    exact puts_long ao _ ca n v2 w (by omega)

set_option maxRecDepth 100000 in
theorem oplogPuts_lifted (os : Os) (started : os.Started) (H : Type) (enc : TypeId × Value → H) :
    ReturnsInHanded {} Try.checked os 5 .any (Rows.oplogPutsSpec.pre6 enc Try.prog Try.f5 Rows.oplogPutsRow.domain false) (Rows.oplogPutsSpec.post enc Try.prog Try.f5 false true false false) := by
  refine returnsInHanded_of_change_sized (C := Try.checked) own started (by kernel_rfl) Try.func5
    (ChangeSpec.witness6 (enc := enc) (C := Try.checked) false ⟨#[], #[.slice none 0 0, .int .i64 0, .slice none 0 0], []⟩ 8 (by kernel_rfl) (by kernel_rfl) (by kernel_rfl) (by kernel_rfl)) ?_
  intro W base args ds gs before hval0 hW hcnd hsized _
  have hval : ∀ (j : Nat) t v, Try.f5.params[j]? = some t → args[j]? = some v → Value.okWide Try.prog W .any base t v := hval0
  have hW' := hW
  obtain ⟨p, q, hA0, hV, rfl, hfz, hnd⟩ := hW
  have hA : DataW.TrodAll enc Try.prog W 0 (fun _ => true) true Try.f5.params.toList args.toList ds p := hA0
  rw [Try.params5] at hA hval
  obtain ⟨v0, v1, v2, d0, d1, d2, p0, p1, p2, rfl, rfl, rfl, h0, h1, h2⟩ := trodAll_three hA
  obtain ⟨rfl, rfl⟩ := trodVars_none hV
  obtain ⟨l, hl, _⟩ := open_items Try.underlying33 Try.underlying32 (by kernel_rfl) (by kernel_rfl) Try.underlying3 Try.underlying3 Try.underlying3 Try.underlying9 (okWide_slice Try.underlying33 (hval 0 33 v0 rfl rfl)) h0
  obtain ⟨a, rfl, rfl, rfl, w0⟩ := open_int Try.underlying3 (hval 1 3 v1 rfl rfl) h1
  obtain ⟨m, hm, hd⟩ := open_items Try.underlying33 Try.underlying32 (by kernel_rfl) (by kernel_rfl) Try.underlying3 Try.underlying3 Try.underlying3 Try.underlying9 (okWide_slice Try.underlying33 (hval 2 33 v2 rfl rfl)) h2
  have hsz : m.length ≤ 4611686018427387904 := by
    rcases hd with rfl | ⟨es, sp, rfl, hlen⟩
    · simp
    · have hs := sized_slice hsized (j := 2) (t := 33) (e := 32) (elems := es) (spare := sp) rfl rfl Try.underlying33
      rw [show Try.checked.prog.bytesOf 32 = 40 from by kernel_rfl] at hs
      have := reachBytes_lt
      omega
  refine (puts_any v0 v2 l m a W hl hm hsz).mono fun e W' ⟨he, hg⟩ => ⟨_, he, ?_⟩
  exact Law.post laidOut (by kernel_rfl) rfl Try.underlying4 hW' rfl rfl hg

theorem oplogPuts_holds : Rows.OplogPutsSaid :=
  OpenClaim.holds_of_wide 5 Try.f5 rfl rfl rfl rfl rfl rfl rfl ⟨rfl, rfl, rfl, rfl, rfl⟩ rfl rfl rfl rfl rfl (by kernel_rfl) Try.func5 (by kernel_rfl)
    (of_decide_eq_true (by kernel_rfl)) (by unfold Func.isWrapper; first | (rw [if_pos (by decide +kernel)]; kernel_rfl) | (rw [if_neg (by decide +kernel)]; exact ⟨rfl, rfl⟩))
    (fun os started H enc _ => oplogPuts_lifted os started H enc)
#print axioms oplogPuts_holds
end Go.Proofs.Ytibndhaelmnhmaa
