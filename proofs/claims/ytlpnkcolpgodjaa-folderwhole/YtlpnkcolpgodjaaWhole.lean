/-
  FolderWhole.
-/
import Derived.Test.YtlpnkcolpgodjaaPages
namespace Go.Proofs.Ytlpnkcolpgodjaa
open Go.ChangeShapes Go.WideShapes Go.ChangeAt Go.RowKit Go.Deep
namespace Fo
/-- Behind the last cookie of the first j the page begins at j. -/
theorem page_at {l : List Ent} {next n : Int} {j : Nat} (h : Right l next) (hj : j ≤ l.length) (hn : 1 ≤ n ∧ n ≤ 64) : pageErr l next (lastC l j) n = 0 ∧ page l next (lastC l j) n = (l.drop j).take n.toNat := by
  have hb := lastC_bd (k := j) (fun i hi => h.2.1 i (by omega)) hj h.1.1
  have he : pageErr l next (lastC l j) n = 0 := by
    unfold pageErr
    rw [if_pos (err_ok h), if_pos ⟨hb.1, hn⟩]
  refine ⟨he, ?_⟩
  have below : ∀ i y, i < j → l[i]? = some y → past (lastC l j) y = false := fun i y hi hy => by
    obtain ⟨j', rfl⟩ : ∃ j', j = j' + 1 := ⟨j - 1, by omega⟩
    have hz : l[j']? = some (l[j']'(by omega)) := List.getElem?_eq_getElem _
    rw [lastC_succ hz]
    refine decide_eq_false ?_
    by_cases e : i = j'
    · subst e
      rw [hy] at hz
      cases hz
      omega
    · have := rising h j' i y _ (by omega) hy hz
      omega
  by_cases hlt : j < l.length
  · have hx : l[j]? = some l[j] := List.getElem?_eq_getElem hlt
    have hg := h.2.1 j hlt _ hx
    exact page_hit he (at_hit hx (decide_eq_true (by omega)) below)
  · have hjl : j = l.length := by omega
    rw [page_miss (at_miss fun i y hi hy => below i y (by omega) hy), hjl, List.drop_length, List.take_nil]
theorem take_more {l : List Ent} (j n : Nat) : l.take j ++ (l.drop j).take n = l.take (j + n) := by
  rw [List.take_add]
end Fo
theorem At.lenq {α : Type} {E : Enc α} {S : Nat → Prop} {w : World} {p : Option Addr} {n q : Nat} {l : List α} (h : At E S w (.slice p n q) l) : n = l.length := by
  obtain ⟨ao, cap, hv, -, -⟩ := h.open
  simp only [Value.slice.injEq] at hv
  exact hv.2.1
set_option maxHeartbeats 4000000 in
theorem whole_any (v : Value) (l : List Ent) (next n : Int) (w : World) (hv : AtW EE w v l) (hs : ∀ x ∈ l, x.1.size ≤ maxLen) :
    Calls Try.prog 8 #[VD v next, .int .i64 n] w fun e w' => e = .returned (.bool true) ∧ Below w.heap.size w w' := by
  have hv0 := hv
  obtain ⟨ao, cap, rfl, hm, -⟩ := hv0.open
  clear hv0
  unfold maxLen at hm
  obtain ⟨m, hlm⟩ : ∃ m, l.length = m := ⟨_, rfl⟩
  rw [hlm] at hm hv ⊢
  have HLM : Hid (l.length = m) := hlm
  obtain ⟨W, hW⟩ : ∃ W, W = (w.alloc (BD (.slice ao m cap) next)).alloc (BD (.slice ao m cap) next) := ⟨_, rfl⟩
  have HB0 : Hid (Below (w.heap.size + 1) (w.alloc (BD (.slice ao m cap) next)) W) := by show Below (w.heap.size + 1) (w.alloc (BD (.slice ao m cap) next)) W; rw [hW]; exact (Below.refl _ _).alloc (by simp) _
  obtain ⟨a0, a1⟩ := dir_cells HB0.out
  have HW0 : Hid (Below w.heap.size w W) := over HB0.out HB0.out
  have HV : Hid (∀ V, Below (w.heap.size + 1) (w.alloc (BD (.slice ao m cap) next)) V → AtW EE V (.slice ao m cap) l) := fun V hV => hv.up (over hV hV)
  have HS : Hid (∀ x ∈ l, x.1.size ≤ maxLen) := hs
  clear hv hs hlm
  by_cases hl : (400 : Int) < (m : Int)
  · have HL : Hid (decide ((400 : Int) < (m : Int)) = true) := decide_eq_true hl
    clear hl
    go_enter Try.func8, Try.ntmps8
    go_wp2_with fail
    refine (plarge_any ao m cap next _).mono ?_
    rintro e w1 ⟨rfl, hw1⟩
    rw [← hW] at hw1
    subst hw1
    clear hW
    rw [HL.out]
    go_wp2_with fail
    refine (two_any _).mono ?_
    rintro e w2 ⟨rfl, hb⟩
    go_wp2
    go_ret
    exact ⟨rfl, HW0.out.trans (hb.mono HW0.out.size)⟩
  have HL : Hid (decide ((400 : Int) < (m : Int)) = false) := decide_eq_false hl
  rcases Fo.err_or l next with ⟨he, hr⟩ | ⟨he, -⟩
  · have HE : Hid (Fo.err l next = 0) := he
    have HR : Hid (Fo.Right l next) := hr
    clear he hr
    by_cases n0 : n < 1
    · clear hl
      go_enter Try.func8, Try.ntmps8
      go_wp2_with fail
      refine (plarge_any ao m cap next _).mono ?_
      rintro e w1 ⟨rfl, hw1⟩
      rw [← hW] at hw1
      subst hw1
      clear hW
      rw [HL.out]
      go_wp2_with fail
      refine (check_any _ l next _ (HV.out _ HB0.out) HS.out).mono ?_
      rintro e w2 ⟨rfl, hb2⟩
      rw [HE.out]
      have HB2 : Hid (Below (w.heap.size + 1) (w.alloc (BD (.slice ao m cap) next)) w2) := HB0.out.trans (hb2.mono (by have := HB0.out.size; simpa using this))
      clear hb2 a0 a1
      go_wp2_with fail
      refine (two_any _).mono ?_
      rintro e w3 ⟨rfl, hb⟩
      go_wp2
      go_ret
      have hh := over HB2.out HB2.out
      exact ⟨rfl, hh.trans (hb.mono hh.size)⟩
    by_cases n1 : 64 < n
    · clear hl
      go_enter Try.func8, Try.ntmps8
      go_wp2_with fail
      refine (plarge_any ao m cap next _).mono ?_
      rintro e w1 ⟨rfl, hw1⟩
      rw [← hW] at hw1
      subst hw1
      clear hW
      rw [HL.out]
      go_wp2_with fail
      refine (check_any _ l next _ (HV.out _ HB0.out) HS.out).mono ?_
      rintro e w2 ⟨rfl, hb2⟩
      rw [HE.out]
      have HB2 : Hid (Below (w.heap.size + 1) (w.alloc (BD (.slice ao m cap) next)) w2) := HB0.out.trans (hb2.mono (by have := HB0.out.size; simpa using this))
      clear hb2 a0 a1
      go_wp2_with fail
      refine (two_any _).mono ?_
      rintro e w3 ⟨rfl, hb⟩
      go_wp2
      go_ret
      have hh := over HB2.out HB2.out
      exact ⟨rfl, hh.trans (hb.mono hh.size)⟩
    have hml : m ≤ 400 := by omega
    have HN : Hid (1 ≤ n ∧ n ≤ 64) := ⟨by omega, by omega⟩
    obtain ⟨j0, hj, hy0, hy1, hy2⟩ := info_parts infoE
    clear hl
    go_enter Try.func8, Try.ntmps8
    go_wp2_with fail
    refine (plarge_any ao m cap next _).mono ?_
    rintro e w1 ⟨rfl, hw1⟩
    rw [← hW] at hw1
    subst hw1
    clear hW
    rw [HL.out]
    go_wp2_with fail
    refine (check_any _ l next _ (HV.out _ HB0.out) HS.out).mono ?_
    rintro e w2 ⟨rfl, hb2⟩
    rw [HE.out]
    have HB2 : Hid (Below (w.heap.size + 1) (w.alloc (BD (.slice ao m cap) next)) w2) := HB0.out.trans (hb2.mono (by have := HB0.out.size; simpa using this))
    clear hb2 a0 a1
    obtain ⟨d0, d1⟩ := dir_cells HB2.out
    go_wp2
    go_loopw [5, 6, 7] (fun u t i wr => ∃ (k j : Nat) (p : Option Addr) (jj q : Nat), k ≤ m + 1 ∧ j ≤ m ∧ (k ≤ j ∨ j = m) ∧ i = .int .i64 k ∧ t = .int .i64 (Fo.lastC l j) ∧ u = .slice p jj q ∧ Hid (Row EE wr (w.heap.size + 1) 30 (.slice p jj q) (l.take j)) ∧ Hid (Below (w.heap.size + 1) (w.alloc (BD (.slice ao m cap) next)) wr)) (fun _ _ i _ => m + 1 - (intOf i).toNat)
    case atStart => exact ⟨0, 0, none, 0, 0, Nat.zero_le _, Nat.zero_le _, .inl (Nat.le_refl _), rfl, rfl, rfl, by rw [List.take_zero]; exact Row.nil _ _ _ _, HB2⟩
    case round =>
      obtain ⟨k, j, p, jj, q, hk, hjm, hkj, rfl, rfl, rfl, HRW, HB⟩ := hrel
      clear d0 d1
      obtain ⟨d0, d1⟩ := dir_cells HB.out
      have hws : w.heap.size + 1 ≤ wr.heap.size := by have := HB.out.size; simpa using this
      by_cases hlt : k ≤ m
      · have hlt' : (k : Int) ≤ (m : Int) := by omega
        obtain ⟨hpe, hpg⟩ := Fo.page_at HR.out (by rw [HLM.out]; exact hjm) HN.out
        have HPE : Hid (Fo.pageErr l next (Fo.lastC l j) n = 0) := hpe
        have HPG : Hid (Fo.page l next (Fo.lastC l j) n = (l.drop j).take n.toNat) := hpg
        obtain ⟨cc, hcc⟩ : ∃ cc, Fo.lastC l j = cc := ⟨_, rfl⟩
        rw [hcc] at HPE HPG ⊢
        have HCC : Hid (Fo.lastC l j = cc) := hcc
        clear hpe hpg hcc
        go_wp2_with fail
        refine (page_any _ l next cc n _ (HV.out _ HB.out) HS.out).mono ?_
        rintro e w2 ⟨p2, n2, q2, rfl, h2, hb2⟩
        rw [HPE.out]
        rw [HPG.out] at h2
        have hn2 := h2.lenq
        rw [List.length_take, List.length_drop, HLM.out] at hn2
        have hn2n : ¬ n < (n2 : Int) := by have := HN.out; omega
        have HN2 : Hid (n2 = min n.toNat (m - j)) := hn2
        have HA2 : Hid (At EE (fun b => wr.heap.size ≤ b) w2 (.slice p2 n2 q2) ((l.drop j).take n.toNat)) := h2
        have HR2 : Hid (Row EE w2 (w.heap.size + 1) 30 (.slice p jj q) (l.take j)) := HRW.out.up hb2
        have HB3 : Hid (Below (w.heap.size + 1) (w.alloc (BD (.slice ao m cap) next)) w2) := HB.out.trans (hb2.mono hws)
        have hs2 : w.heap.size + 1 ≤ w2.heap.size := Nat.le_trans hws hb2.size
        clear h2 hb2 hn2 d0 d1
        by_cases hz : n2 = 0
        · subst hz
          have hjm2 : j = m := by have := HN2.out; have := HN.out; omega
          have HNIL : Hid ((l.drop j).take n.toNat = []) := by
            show (l.drop j).take n.toNat = []
            rw [hjm2, ← HLM.out, List.drop_length, List.take_nil]
          go_wp2_with (at_builtin; refine wpList_row _ rfl _ _ 22 rfl EE (fun b => wr.heap.size ≤ b) (w.heap.size + 1) 30 j0 _ 40 Try.underlying22 hj hy0 hy1 hy2 rfl _ (l.take j) rfl HR2.out _ ((l.drop j).take n.toNat) rfl HA2.out (by have := HLM.out; unfold maxLen; simp; omega) (by have := HLM.out; simp; omega) (by omega) ?_; intro v7 w7 hrow7 hg7 hloc7)
          have HEND : Hid (Row EE w7 (w.heap.size + 1) 30 v7 (l.take j) ∧ Below (w.heap.size + 1) (w.alloc (BD (.slice ao m cap) next)) w7) := ⟨by rw [HNIL.out, List.append_nil] at hrow7; exact hrow7, HB3.out.grown hg7 hs2 (fun k hk => (HR2.out.lt k hk).1)⟩
          clear hrow7 hg7 hloc7
          obtain ⟨p7, n7, c7, rfl⟩ := HEND.out.1.slice3
          go_wp2
          go_roundw
          case rel => exact ⟨k + 1, j, p7, n7, c7, by omega, hjm, .inr hjm2, by go_num, by rw [HCC.out], rfl, HEND.out.1, HEND.out.2⟩
          case measure => simp [intOf]; omega
        · obtain ⟨n3, hn3⟩ : ∃ n3, n2 = n3 + 1 := ⟨n2 - 1, by omega⟩
          have hjn : j + n3 + 1 ≤ m := by have := HN2.out; omega
          have hsub : (n2 : Int) - 1 = (n3 : Int) := by omega
          have hlt3 : (n3 : Int) < (n2 : Int) := by omega
          have hpos : 0 < (n2 : Int) := by omega
          have hltN : n3 < n2 := by omega
          have hn30 : (0 : Int) ≤ (n3 : Int) := by omega
          have hn2s : (n2 : Int) ≤ 400 := by omega
          obtain ⟨x, hx⟩ : ∃ x, l[j + n3]? = some x := ⟨_, List.getElem?_eq_getElem (by rw [HLM.out]; omega)⟩
          have hxp : ((l.drop j).take n.toNat)[n3]? = some x := by
            rw [List.getElem?_take_of_lt (by have := HN2.out; omega), List.getElem?_drop]
            exact hx
          have HLC : Hid (Fo.lastC l (j + n3 + 1) = x.2.1) := Fo.lastC_succ hx
          have HTK : Hid (l.take j ++ (l.drop j).take n.toNat = l.take (j + n3 + 1)) := by
            show l.take j ++ (l.drop j).take n.toNat = l.take (j + n3 + 1)
            rw [Fo.take_more]
            have h1 := HN2.out
            have h2 := HLM.out
            by_cases e : n.toNat = n3 + 1
            · rw [e, Nat.add_assoc]
            · rw [List.take_of_length_le (by omega), List.take_of_length_le (by omega)]
          have HXP : Hid (((l.drop j).take n.toNat)[n3]? = some x) := hxp
          obtain ⟨ao7, cap7, hv7, -, ho7⟩ := HA2.out.open
          simp only [Value.slice.injEq] at hv7
          obtain ⟨b7, off7, hb7, hS7, hL7, hc7⟩ := ho7 n3 x hxp
          obtain rfl : p2 = some ⟨b7, off7, none⟩ := hv7.1.trans hb7
          have HC7 : Hid (w2.cell? ⟨b7, off7 + n3 * 4 + 1, none⟩ = some (.int .i64 x.2.1)) := hc7 1 _ rfl
          have HS7 : Hid (wr.heap.size ≤ b7 ∧ b7 < w2.heap.size) := ⟨hS7, hL7⟩
          clear hn3 hz hx hxp hv7 ho7 hb7 hS7 hL7 hc7
          go_wp2_with (at_builtin; refine wpList_row _ rfl _ _ 22 rfl EE (fun b => wr.heap.size ≤ b) (w.heap.size + 1) 30 j0 _ 40 Try.underlying22 hj hy0 hy1 hy2 rfl _ (l.take j) rfl HR2.out _ ((l.drop j).take n.toNat) rfl HA2.out (by have := HLM.out; unfold maxLen; simp; omega) (by have := HLM.out; simp; omega) (by omega) ?_; intro v7 w7 hrow7 hg7 hloc7; have hg8 : World.grownBy w2 w7 (Value.slice p jj q).ownBlock := hg7; have c1 : w7.cell? ⟨b7, off7 + n3 * 4 + 1, none⟩ = some (.int .i64 x.2.1) := (cell_block (hg8.block b7 HS7.out.2 (fun e => by have h5 := (HRW.out.lt b7 e.symm).2; have h6 := HS7.out.1; omega))).trans HC7.out; clear hg8)
          have HEND : Hid (Row EE w7 (w.heap.size + 1) 30 v7 (l.take (j + n3 + 1)) ∧ Below (w.heap.size + 1) (w.alloc (BD (.slice ao m cap) next)) w7) := ⟨by rw [HTK.out] at hrow7; exact hrow7, HB3.out.grown hg7 hs2 (fun k hk => (HR2.out.lt k hk).1)⟩
          clear hrow7 hg7 hloc7
          obtain ⟨p7, n7, c7, rfl⟩ := HEND.out.1.slice3
          go_wp2
          go_roundw
          case rel => exact ⟨k + 1, j + n3 + 1, p7, n7, c7, by omega, hjn, by omega, by go_num, by rw [HLC.out], rfl, HEND.out.1, HEND.out.2⟩
          case measure => simp [intOf]; omega
      · have hlt' : ¬ (k : Int) ≤ (m : Int) := by omega
        obtain rfl : j = m := by omega
        have HE1 : Hid (AtW EE wr (.slice p jj q) l) := by
          have := HRW.out.at.wide
          rwa [← HLM.out, List.take_length] at this
        go_wp2_with fail
        refine (entries_same _ _ l _ HE1.out (HV.out _ HB.out)).mono ?_
        rintro e w5 ⟨rfl, hb5⟩
        have HB5 : Hid (Below w.heap.size w w5) := (over HB.out HB.out).trans (hb5.mono (over HB.out HB.out).size)
        clear hb5
        go_wp2_with fail
        refine (two_any _).mono ?_
        rintro e w6 ⟨rfl, hb6⟩
        have HB6 : Hid (Below w.heap.size w w6) := HB5.out.trans (hb6.mono HB5.out.size)
        clear hb6
        go_wp2
        go_ret
        exact ⟨rfl, HB6.out⟩
  · have HE : Hid (Fo.err l next = 4) := he
    clear he hl
    go_enter Try.func8, Try.ntmps8
    go_wp2_with fail
    refine (plarge_any ao m cap next _).mono ?_
    rintro e w1 ⟨rfl, hw1⟩
    rw [← hW] at hw1
    subst hw1
    clear hW
    rw [HL.out]
    go_wp2_with fail
    refine (check_any _ l next _ (HV.out _ HB0.out) HS.out).mono ?_
    rintro e w2 ⟨rfl, hb2⟩
    rw [HE.out]
    have HB2 : Hid (Below (w.heap.size + 1) (w.alloc (BD (.slice ao m cap) next)) w2) := HB0.out.trans (hb2.mono (by have := HB0.out.size; simpa using this))
    clear hb2 a0 a1
    go_wp2_with fail
    refine (two_any _).mono ?_
    rintro e w3 ⟨rfl, hb⟩
    go_wp2
    go_ret
    have hh := over HB2.out HB2.out
    exact ⟨rfl, hh.trans (hb.mono hh.size)⟩

set_option maxRecDepth 100000 in
theorem folderWhole_lifted (os : Os) (started : os.Started) (H : Type) (enc : TypeId × Value → H) :
    ReturnsInHanded {} Try.checked os 8 .any (Rows.folderWholeSpec.pre6 enc Try.prog Try.f8 Rows.folderWholeRow.domain false) (Rows.folderWholeSpec.post enc Try.prog Try.f8 false true false false) := by
  refine returnsInHanded_of_change (C := Try.checked) own started (by kernel_rfl) Try.func8
    (ChangeSpec.witness6 (enc := enc) (C := Try.checked) false ⟨#[], #[.agg #[.slice none 0 0, .int .i64 0], .int .i64 0], []⟩ 8 (by kernel_rfl) (by kernel_rfl) (by kernel_rfl) (by kernel_rfl)) ?_
  intro W base args ds gs before hval0 hW hcnd _
  have hval : ∀ (j : Nat) t v, Try.f8.params[j]? = some t → args[j]? = some v → Value.okWide Try.prog W .any base t v := hval0
  have hW' := hW
  have hlt : ∀ x ∈ before, x.block < W.heap.size := fun x hx => by simpa using hW'.lt x hx
  obtain ⟨p, q, hA0, hV, rfl, hfz, hnd⟩ := hW
  have hA : DataW.TrodAll enc Try.prog W 0 (fun _ => true) true Try.f8.params.toList args.toList ds p := hA0
  rw [Try.params8] at hA hval
  obtain ⟨v0, v1, d0, d1, p0, p1, rfl, rfl, rfl, h0, h1⟩ := trodAll_two hA
  obtain ⟨rfl, rfl⟩ := trodVars_none hV
  obtain ⟨u, l, next, rfl, hl, hs⟩ := open_dir (hval 0 24 v0 rfl rfl) h0
  obtain ⟨n, rfl, -, -, -⟩ := open_int Try.underlying3 (hval 1 3 v1 rfl rfl) h1
  refine (whole_any u l next n W hl hs).mono fun e W' ⟨he, hg⟩ => ⟨_, he, ?_⟩
  exact Law.post laidOut (by kernel_rfl) rfl Try.underlying4 hW' rfl rfl hg

theorem folderWhole_holds : Rows.FolderWholeSaid :=
  OpenClaim.holds_of_wide 8 Try.f8 rfl rfl rfl rfl rfl rfl rfl ⟨rfl, rfl, rfl, rfl, rfl⟩ rfl rfl rfl rfl rfl (by kernel_rfl) Try.func8 (by kernel_rfl)
    (of_decide_eq_true (by kernel_rfl)) (by unfold Func.isWrapper; first | (rw [if_pos (by decide +kernel)]; kernel_rfl) | (rw [if_neg (by decide +kernel)]; exact ⟨rfl, rfl⟩))
    (fun os started H enc _ => folderWhole_lifted os started H enc)
#print axioms folderWhole_holds
end Go.Proofs.Ytlpnkcolpgodjaa
