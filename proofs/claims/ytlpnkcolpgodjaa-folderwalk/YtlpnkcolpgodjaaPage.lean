/-
  slices.Clone, folder.Page: what they answer.
-/
import Derived.Test.YtlpnkcolpgodjaaTwo
import Derived.Lib.LazyBuf
namespace Go.Proofs.Ytlpnkcolpgodjaa
open Go.ChangeShapes Go.WideShapes Go.ChangeAt Go.RowKit Go.Deep
set_option maxHeartbeats 1000000 in
theorem clone_any (v : Value) (l : List Ent) (w : World) (hv : AtW EE w v l) (hl : l.length ≤ 1099511627776) :
    Calls Try.prog 37 #[v] w fun e w' => ∃ p n c, e = .returned (.slice p n c) ∧ At EE (fun b => w.heap.size ≤ b) w' (.slice p n c) l ∧ Below w.heap.size w w' := by
  have HV : Hid (AtW EE w v l) := hv
  obtain ⟨ao, cap, rfl, hm, hx⟩ := hv.open
  clear hv
  unfold maxLen at hm
  have HL : Hid (l.length ≤ 1099511627776) := hl
  cases ao with
  | none =>
    have h0 : l = [] := by
      cases l with
      | nil => rfl
      | cons x r =>
        obtain ⟨b, off, h, -⟩ := hx 0 x rfl
        cases h
    subst h0
    clear hx HV HL hl hm
    have hnil := fun w' => Lib.run_eql_slice_nil (P := Try.prog) w' 22 30 none 0 cap 0 0 Try.underlying22
    go_enter Try.func37, Try.ntmps37
    go_wp2
    go_ret
    exact ⟨_, _, _, rfl, .inl ⟨_, _, rfl, rfl⟩, Below.refl _ _⟩
  | some a =>
    obtain ⟨j0, hj, hy0, hy1, hy2⟩ := info_parts infoE
    have HR : Hid (Row EE (w.alloc (.cells #[] 30)) w.heap.size 30 (.slice (some ⟨w.heap.size, 0, none⟩) 0 0) []) := .inr ⟨w.heap.size, 0, #[], rfl, Nat.le_refl _, heap_alloc_new _ _, Nat.le_refl _, by decide, by simp, by simp [Enc.flat]⟩
    have HB0 : Hid (Below w.heap.size w (w.alloc (.cells #[] 30))) := (Below.refl _ w).alloc (Nat.le_refl _) _
    have HV1 : Hid (AtW EE (w.alloc (.cells #[] 30)) (.slice (some a) l.length cap) l) := HV.out.up HB0.out
    clear hx hm hl
    obtain ⟨m, hlm⟩ : ∃ m, l.length = m := ⟨_, rfl⟩
    rw [hlm] at HV1 ⊢
    clear hlm
    have hnil := fun w' => Lib.run_eql_slice_nil (P := Try.prog) w' 22 30 (some a) m cap 0 0 Try.underlying22
    go_enter Try.func37, Try.ntmps37
    go_wp2_with (at_builtin; refine wpList_row _ rfl _ _ 22 rfl EE (fun _ => True) w.heap.size 30 j0 _ 40 Try.underlying22 hj hy0 hy1 hy2 rfl _ [] rfl HR.out _ l rfl HV1.out (by have := HL.out; unfold maxLen; simp; omega) (by have := HL.out; simp; omega) (by simp) ?_; intro v7 w7 hrow7 hg7 hloc7)
    have HEND : Hid (Row EE w7 w.heap.size 30 v7 l ∧ Below w.heap.size w w7) := ⟨by simpa using hrow7, HB0.out.grown hg7 (by simp) (fun k hk => (HR.out.lt k hk).1)⟩
    clear hrow7 hg7 hloc7
    obtain ⟨pu, nu, cu, rfl⟩ := HEND.out.1.slice3
    go_ret
    exact ⟨_, _, _, rfl, HEND.out.1.at, HEND.out.2⟩
namespace Fo
noncomputable def pageErr (l : List Ent) (next c n : Int) : Int := if err l next = 0 then (if 0 ≤ c ∧ (1 ≤ n ∧ n ≤ 64) then 0 else 1) else 4
noncomputable def page (l : List Ent) (next c n : Int) : List Ent := if pageErr l next c n = 0 ∧ 0 ≤ at' (past c) l then (l.drop (at' (past c) l).toNat).take n.toNat else []
theorem page_no {l : List Ent} {next c n e : Int} (h : pageErr l next c n = e) (he : e ≠ 0) : page l next c n = [] := by unfold page; rw [if_neg (fun k => he (h.symm.trans k.1))]
theorem page_miss {l : List Ent} {next c n : Int} (h : at' (past c) l = -1) : page l next c n = [] := by unfold page; rw [if_neg (fun k => by rw [h] at k; omega)]
theorem page_hit {l : List Ent} {next c n : Int} {k : Nat} (h : pageErr l next c n = 0) (hk : at' (past c) l = k) : page l next c n = (l.drop k).take n.toNat := by
  unfold page
  rw [if_pos ⟨h, by rw [hk]; omega⟩, hk]
  rfl
end Fo
theorem run_cut_lh (w : World) (a : Option Addr) (m cap k j : Nat) (hk : k ≤ j) (hj : j ≤ cap) : (Instr.slice 22 (.slice a m cap) (some (.int .i64 (k : Int))) (some (.int .i64 (j : Int))) none).run Try.prog w = .ok (sliced a k j cap EE.sz) w := by
  rw [run_slice_lh (P := Try.prog) w 22 a m cap Try.underlying22 .i64 .i64 (k : Int) (j : Int) (by omega) (by omega) (by omega)]
  rfl
set_option maxHeartbeats 2000000 in
theorem page_any (v : Value) (l : List Ent) (next c n : Int) (w : World) (hv : AtW EE w v l) (hs : ∀ x ∈ l, x.1.size ≤ maxLen) :
    Calls Try.prog 23 #[VD v next, .int .i64 c, .int .i64 n] w fun e w' => ∃ p j q, e = .returned (.tuple #[.slice p j q, .int .i64 (Fo.pageErr l next c n)]) ∧ At EE (fun b => w.heap.size ≤ b) w' (.slice p j q) (Fo.page l next c n) ∧ Below w.heap.size w w' := by
  have hv0 := hv
  obtain ⟨ao, cap, rfl, hm, hx⟩ := hv0.open
  clear hv0
  unfold maxLen at hm
  obtain ⟨m, hlm⟩ : ∃ m, l.length = m := ⟨_, rfl⟩
  rw [hlm] at hm hv ⊢
  have HLM : Hid (l.length = m) := hlm
  clear hlm
  obtain ⟨W, hW⟩ : ∃ W, W = (w.alloc (BD (.slice ao m cap) next)).alloc (.cells #[.int .i64 c] 3) := ⟨_, rfl⟩
  have HB0 : Hid (Below w.heap.size w W) := by show Below w.heap.size w W; rw [hW]; exact ((Below.refl _ w).alloc (Nat.le_refl _) _).alloc (by simp) _
  have a0 : W.cell? ⟨w.heap.size, 0, none⟩ = some (.slice ao m cap) := by
    rw [hW]
    exact (cell_older (by simp) _ _).trans (box_cells w (.slice ao m cap) next).1
  have a1 : W.cell? ⟨w.heap.size + 1, 0, none⟩ = some (.int .i64 c) := by
    have hh := heap_alloc_new (w.alloc (BD (.slice ao m cap) next)) (.cells #[.int .i64 c] 3)
    rw [← hW, show (w.alloc (BD (.slice ao m cap) next)).heap.size = w.heap.size + 1 by simp] at hh
    simp only [World.cell?, hh]
    rfl
  have HV : Hid (AtW EE W (.slice ao m cap) l) := hv.up HB0.out
  have HS : Hid (∀ x ∈ l, x.1.size ≤ maxLen) := hs
  have HV0 : Hid (AtW EE w (.slice ao m cap) l) := hv
  clear hv hs
  rcases Fo.err_or l next with ⟨he, hr⟩ | ⟨he, -⟩
  · have HE : Hid (Fo.err l next = 0) := he
    by_cases c0 : c < 0
    · have HPE : Hid (Fo.pageErr l next c n = 1) := by show Fo.pageErr l next c n = 1; unfold Fo.pageErr; rw [if_pos he, if_neg (fun h => by omega)]
      have HPG : Hid (Fo.page l next c n = []) := Fo.page_no HPE.out (by decide)
      rw [HPE.out]
      clear he hr hx
      go_enter Try.func23, Try.ntmps23
      go_wp2_with fail
      rw [← hW]
      refine (check_any _ l next _ HV.out HS.out).mono ?_
      rintro e w1 ⟨rfl, hb⟩
      rw [HE.out]
      have HB1 : Hid (Below w.heap.size w w1) := HB0.out.trans (hb.mono HB0.out.size)
      have e0 := cell_step a0 hb
      have e1 := cell_step a1 hb
      have HV1 : Hid (AtW EE w1 (.slice ao m cap) l) := HV.out.up hb
      clear hb hW a0 a1
      go_wp2
      go_ret2
      exact ⟨none, 0, 0, rfl, by rw [HPG.out]; exact .inl ⟨_, _, rfl, rfl⟩, HB1.out⟩
    by_cases n0 : 1 ≤ n ∧ n ≤ 64
    · have G : Hid (1 ≤ n ∧ n ≤ 64) := n0
      have HPE : Hid (Fo.pageErr l next c n = 0) := by show Fo.pageErr l next c n = 0; unfold Fo.pageErr; rw [if_pos he, if_pos ⟨by omega, n0⟩]
      rw [HPE.out]
      rcases Fo.at_or (Fo.past c) l with ⟨ht, -⟩ | ⟨k, x, ht, hxk, -, -⟩
      · have HT : Hid (Fo.at' (Fo.past c) l = -1) := ht
        have HPG : Hid (Fo.page l next c n = []) := Fo.page_miss ht
        clear he hr hx ht n0
        go_enter Try.func23, Try.ntmps23
        go_wp2_with fail
        rw [← hW]
        refine (check_any _ l next _ HV.out HS.out).mono ?_
        rintro e w1 ⟨rfl, hb⟩
        rw [HE.out]
        have HB1 : Hid (Below w.heap.size w w1) := HB0.out.trans (hb.mono HB0.out.size)
        have e0 := cell_step a0 hb
        have e1 := cell_step a1 hb
        have HV1 : Hid (AtW EE w1 (.slice ao m cap) l) := HV.out.up hb
        clear hb hW a0 a1
        go_wp2_with fail
        refine (within_yes _ _ _ _ G.out).mono ?_
        rintro e w2 ⟨rfl, hw2⟩
        obtain rfl : w1 = w2 := hw2.symm
        go_wp2_with fail
        refine (index_past _ l c (w.heap.size + 1) _ HV1.out (cell_lt e1) e1).mono ?_
        rintro e w3 ⟨rfl, hb3⟩
        rw [HT.out]
        have HB3 : Hid (Below w.heap.size w w3) := HB1.out.trans (hb3.mono HB1.out.size)
        clear hb3
        go_wp2
        go_ret2
        exact ⟨none, 0, 0, rfl, by rw [HPG.out]; exact .inl ⟨_, _, rfl, rfl⟩, HB3.out⟩
      · have HT : Hid (Fo.at' (Fo.past c) l = k) := ht
        have HPG : Hid (Fo.page l next c n = (l.drop k).take n.toNat) := Fo.page_hit HPE.out ht
        have hk := (List.getElem?_eq_some_iff.1 hxk).1
        rw [HLM.out] at hk
        obtain ⟨bb, off, rfl, -, hB, -⟩ := hx k x hxk
        have hcap := HV0.out.capd (by omega)
        unfold maxLen at hcap
        have HRL : Hid (l.length ≤ 1099511627776) := by
          have := Fo.right_len hr
          have := hr.1.2
          show l.length ≤ 1099511627776
          omega
        have hkI : (k : Int) < (m : Int) := by omega
        have hcI : (m : Int) ≤ (cap : Int) := by omega
        have hcnk : ¬ cap = k := by omega
        have hk0 : (0 : Int) ≤ (k : Int) := by omega
        have hn1 : 1 ≤ n := n0.1
        have hn64 : n ≤ 64 := n0.2
        have hml : m ≤ 1099511627776 := by have := HRL.out; have := HLM.out; omega
        have hkn : IntKind.i64.wrap ((k : Int) + n) = (k : Int) + n := by rw [IntKind.wrap_i64]; omega
        have HLP : Hid (((l.drop k).take n.toNat).length ≤ 1099511627776) := by
          have := HRL.out
          show ((l.drop k).take n.toNat).length ≤ 1099511627776
          simp
          omega
        have hge0 : (0 : Int) ≤ (k : Int) + n := by omega
        clear he hr hx ht hxk n0
        by_cases hbig0 : (k : Int) + n ≤ (m : Int)
        · have hbig : ¬ (m : Int) < (k : Int) + n := by omega
          clear hbig0
          have HCUT : Hid (∀ w', AtW EE w' (.slice (some ⟨bb, off, none⟩) m cap) l → AtW EE w' (.slice (some ⟨bb, off + k * 4, none⟩) (((k : Int) + n).toNat - k) (cap - k)) ((l.drop k).take n.toNat)) := fun w' h => by
            have g1 := h.cut (lo := k) (hi := ((k : Int) + n).toNat) (by omega) (by omega)
            rw [List.drop_take, show ((k : Int) + n).toNat - k = n.toNat by omega] at g1
            unfold sliced at g1
            rw [if_neg hcnk] at g1
            simpa [WideShapes.add_plain, EE, show ((k : Int) + n).toNat - k = n.toNat by omega] using g1
          have hbig2 : (k : Int) + n ≤ (cap : Int) := by omega
          have hbig3 : (k : Int) ≤ (k : Int) + n := by omega
          go_enter Try.func23, Try.ntmps23
          go_wp2_with fail
          rw [← hW]
          refine (check_any _ l next _ HV.out HS.out).mono ?_
          rintro e w1 ⟨rfl, hb⟩
          rw [HE.out]
          have HB1 : Hid (Below w.heap.size w w1) := HB0.out.trans (hb.mono HB0.out.size)
          have e0 := cell_step a0 hb
          have e1 := cell_step a1 hb
          have HV1 : Hid (AtW EE w1 (.slice (some ⟨bb, off, none⟩) m cap) l) := HV.out.up hb
          clear hb hW a0 a1
          go_wp2_with fail
          refine (within_yes _ _ _ _ G.out).mono ?_
          rintro e w2 ⟨rfl, hw2⟩
          obtain rfl : w1 = w2 := hw2.symm
          go_wp2_with fail
          refine (index_past _ l c (w.heap.size + 1) _ HV1.out (cell_lt e1) e1).mono ?_
          rintro e w3 ⟨rfl, hb3⟩
          rw [HT.out]
          have HB3 : Hid (Below w.heap.size w w3) := HB1.out.trans (hb3.mono HB1.out.size)
          have f0 := cell_step e0 hb3
          have HV3 : Hid (AtW EE w3 (.slice (some ⟨bb, off, none⟩) m cap) l) := HV1.out.up hb3
          clear hb3 e0 e1
          go_wp2_with fail
          refine (clone_any _ _ _ (HCUT.out _ HV3.out) HLP.out).mono ?_
          rintro e w4 ⟨p4, n4, c4, rfl, h4, hb4⟩
          have HEND : Hid (At EE (fun b => w.heap.size ≤ b) w4 (.slice p4 n4 c4) ((l.drop k).take n.toNat) ∧ Below w.heap.size w w4) := ⟨h4.imp fun b hb _ => Nat.le_trans HB3.out.size hb, HB3.out.trans (hb4.mono HB3.out.size)⟩
          clear h4 hb4
          go_wp2
          go_ret2
          exact ⟨_, _, _, rfl, by rw [HPG.out]; exact HEND.out.1, HEND.out.2⟩
        · have hbig : (m : Int) < (k : Int) + n := by omega
          clear hbig0
          have HCUT : Hid (∀ w', AtW EE w' (.slice (some ⟨bb, off, none⟩) m cap) l → AtW EE w' (.slice (some ⟨bb, off + k * 4, none⟩) (m - k) (cap - k)) ((l.drop k).take n.toNat)) := fun w' h => by
            have hmL := HLM.out
            have g1 := h.cut (lo := k) (hi := m) (by omega) (Nat.le_refl _)
            rw [List.drop_take, List.take_of_length_le (by simp; omega)] at g1
            rw [List.take_of_length_le (by simp; omega)]
            unfold sliced at g1
            rw [if_neg hcnk] at g1
            simpa [WideShapes.add_plain, EE] using g1
          go_enter Try.func23, Try.ntmps23
          go_wp2_with fail
          rw [← hW]
          refine (check_any _ l next _ HV.out HS.out).mono ?_
          rintro e w1 ⟨rfl, hb⟩
          rw [HE.out]
          have HB1 : Hid (Below w.heap.size w w1) := HB0.out.trans (hb.mono HB0.out.size)
          have e0 := cell_step a0 hb
          have e1 := cell_step a1 hb
          have HV1 : Hid (AtW EE w1 (.slice (some ⟨bb, off, none⟩) m cap) l) := HV.out.up hb
          clear hb hW a0 a1
          go_wp2_with fail
          refine (within_yes _ _ _ _ G.out).mono ?_
          rintro e w2 ⟨rfl, hw2⟩
          obtain rfl : w1 = w2 := hw2.symm
          go_wp2_with fail
          refine (index_past _ l c (w.heap.size + 1) _ HV1.out (cell_lt e1) e1).mono ?_
          rintro e w3 ⟨rfl, hb3⟩
          rw [HT.out]
          have HB3 : Hid (Below w.heap.size w w3) := HB1.out.trans (hb3.mono HB1.out.size)
          have f0 := cell_step e0 hb3
          have HV3 : Hid (AtW EE w3 (.slice (some ⟨bb, off, none⟩) m cap) l) := HV1.out.up hb3
          clear hb3 e0 e1
          go_wp2_with fail
          refine (clone_any _ _ _ (HCUT.out _ HV3.out) HLP.out).mono ?_
          rintro e w4 ⟨p4, n4, c4, rfl, h4, hb4⟩
          have HEND : Hid (At EE (fun b => w.heap.size ≤ b) w4 (.slice p4 n4 c4) ((l.drop k).take n.toNat) ∧ Below w.heap.size w w4) := ⟨h4.imp fun b hb _ => Nat.le_trans HB3.out.size hb, HB3.out.trans (hb4.mono HB3.out.size)⟩
          clear h4 hb4
          go_wp2
          go_ret2
          exact ⟨_, _, _, rfl, by rw [HPG.out]; exact HEND.out.1, HEND.out.2⟩
    · have G : Hid (¬ (1 ≤ n ∧ n ≤ 64)) := n0
      have HPE : Hid (Fo.pageErr l next c n = 1) := by show Fo.pageErr l next c n = 1; unfold Fo.pageErr; rw [if_pos he, if_neg (fun h => n0 h.2)]
      have HPG : Hid (Fo.page l next c n = []) := Fo.page_no HPE.out (by decide)
      rw [HPE.out]
      clear he hr hx n0
      go_enter Try.func23, Try.ntmps23
      go_wp2_with fail
      rw [← hW]
      refine (check_any _ l next _ HV.out HS.out).mono ?_
      rintro e w1 ⟨rfl, hb⟩
      rw [HE.out]
      have HB1 : Hid (Below w.heap.size w w1) := HB0.out.trans (hb.mono HB0.out.size)
      have e0 := cell_step a0 hb
      have e1 := cell_step a1 hb
      have HV1 : Hid (AtW EE w1 (.slice ao m cap) l) := HV.out.up hb
      clear hb hW a0 a1
      go_wp2_with fail
      refine (within_no _ _ _ _ G.out).mono ?_
      rintro e w2 ⟨rfl, hw2⟩
      obtain rfl : w1 = w2 := hw2.symm
      go_wp2
      go_ret2
      exact ⟨none, 0, 0, rfl, by rw [HPG.out]; exact .inl ⟨_, _, rfl, rfl⟩, HB1.out⟩
  · have HE : Hid (Fo.err l next = 4) := he
    have HPE : Hid (Fo.pageErr l next c n = 4) := by show Fo.pageErr l next c n = 4; unfold Fo.pageErr; rw [if_neg (by rw [he]; decide)]
    have HPG : Hid (Fo.page l next c n = []) := Fo.page_no HPE.out (by decide)
    rw [HPE.out]
    clear he hx
    go_enter Try.func23, Try.ntmps23
    go_wp2_with fail
    rw [← hW]
    refine (check_any _ l next _ HV.out HS.out).mono ?_
    rintro e w1 ⟨rfl, hb⟩
    rw [HE.out]
    have HB1 : Hid (Below w.heap.size w w1) := HB0.out.trans (hb.mono HB0.out.size)
    have e0 := cell_step a0 hb
    have e1 := cell_step a1 hb
    have HV1 : Hid (AtW EE w1 (.slice ao m cap) l) := HV.out.up hb
    clear hb hW a0 a1
    go_wp2
    go_ret2
    exact ⟨none, 0, 0, rfl, by rw [HPG.out]; exact .inl ⟨_, _, rfl, rfl⟩, HB1.out⟩
end Go.Proofs.Ytlpnkcolpgodjaa
