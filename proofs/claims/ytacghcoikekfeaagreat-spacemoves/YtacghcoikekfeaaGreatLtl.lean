/-
  law11's little: what it answers.
-/
import Derived.Test.YtacghcoikekfeaaGreatLtl0
namespace Go.Proofs.YtacghcoikekfeaaGreat
open Go.ChangeShapes Go.WideShapes Go.ChangeAt Go.RowKit Go.Deep It
set_option maxRecDepth 100000
theorem okN_of {L : List Rw} {T : List Ino} (h : pl L = T) (ht : ∀ x ∈ T, ∀ e ∈ x.ents, e.1.size ≤ maxLen) : Sp.okN L := fun x hx e he => ht x.i (by rw [← h]; exact List.mem_map_of_mem hx) e he
theorem okT1 : ∀ x ∈ Sp.T1, ∀ e ∈ x.ents, e.1.size ≤ maxLen := by
  unfold maxLen
  decide
theorem okT2 : ∀ x ∈ Sp.T2, ∀ e ∈ x.ents, e.1.size ≤ maxLen := by
  unfold maxLen
  decide
theorem okT0 : ∀ x ∈ It.new, ∀ e ∈ x.ents, e.1.size ≤ maxLen := by
  unfold maxLen
  decide
theorem at_threeT {w : World} {A : Nat} {s t u : ByteArray} (h : w.heap[A]? = some (.cells #[.string s, .string t, .string u] 9)) : AtW ETx w (.slice (some ⟨A, 0, none⟩) 3 3) [s, t, u] := by
  refine .inr ⟨A, 0, 3, rfl, trivial, (Array.getElem?_eq_some_iff.1 h).1, by simp, by simp, by unfold maxLen; omega, fun j v hj => ?_⟩
  rw [flatT] at hj
  rcases j with _ | _ | _ | j <;> simp at hj <;> subst hj <;> simp [World.cell?, h]
set_option maxHeartbeats 4000000 in
theorem little_any (w : World) : Calls Tryz.prog 9 #[] w fun e w' => e = .returned (.bool true) ∧ Below w.heap.size w w' := by
  go_enter Tryz.func9, Tryz.ntmps9
  go_wp2_with fail
  refine (new_any _).mono ?_
  rintro e w1 ⟨u1, L1, rfl, ht1, hp1, hb1⟩
  have HB1 : Hid (Below w.heap.size w w1) := hb1
  have HT1 : Hid (TabAt (fun b => w.heap.size ≤ b) w1 u1 L1 ∧ pl L1 = It.new) := ⟨ht1, hp1⟩
  obtain ⟨ao1, cap1, rfl, -, -⟩ := ht1.open
  clear ht1 hp1 hb1
  go_wp2_with fail
  refine (root_any _).mono ?_
  rintro e w2 ⟨rfl, hb2⟩
  have HB2 : Hid (Below w.heap.size w w2) := HB1.out.trans (hb2.mono HB1.out.size)
  have HT2 : Hid (TabAt (fun b => w.heap.size ≤ b) w2 (.slice ao1 L1.length cap1) L1 ∧ pl L1 = It.new) := ⟨HT1.out.1.up hb2, HT1.out.2⟩
  clear hb2
  go_wp2_with fail
  refine (smake_any scheck_any isSp_means _ L1 0 1 Sp.nA 2 1 _ HT2.out.1 (okN_of HT2.out.2 okT0) (by unfold maxLen; decide)).mono ?_
  rintro e w3 ⟨u3, L3, rfl, ht3, hp3, hb3⟩
  rw [HT2.out.2, Sp.mk1.2.1] at hp3
  rw [HT2.out.2, Sp.mk1.1, Sp.mk1.2.2]
  have HB3 : Hid (Below w.heap.size w w3) := HB2.out.trans (hb3.mono HB2.out.size)
  obtain ⟨W3, hW3⟩ : ∃ W3, W3 = w3.alloc (BH 1 1) := ⟨_, rfl⟩
  have HBW : Hid (Below w.heap.size w W3) := by show Below _ _ _; rw [hW3]; exact HB3.out.alloc HB3.out.size _
  have HX3 : Hid (W3.heap[w3.heap.size]? = some (BH 1 1)) := by show W3.heap[w3.heap.size]? = _; rw [hW3]; exact heap_alloc_new _ _
  have HT3 : Hid (TabW W3 u3 L3 ∧ pl L3 = Sp.T1) := ⟨by rw [hW3]; exact tab_wide (ht3.up ((Below.refl _ _).alloc (Nat.le_refl _) _)), hp3⟩
  have hl3 : w3.heap.size < W3.heap.size := (Array.getElem?_eq_some_iff.1 HX3.out).1
  obtain ⟨ao3, cap3, rfl, -, -⟩ := ht3.open
  clear ht3 hp3 hb3 HT1 HT2
  go_wp2_with fail
  rw [← hW3]
  clear hW3
  refine (smake_any scheck_any isSp_means _ L3 1 1 Sp.nB 1 2 _ HT3.out.1 (okN_of HT3.out.2 okT1) (by unfold maxLen; decide)).mono ?_
  rintro e w4 ⟨u4, L4, rfl, ht4, hp4, hb4⟩
  rw [HT3.out.2, Sp.mk2.2] at hp4
  rw [HT3.out.2, Sp.mk2.1]
  obtain ⟨q4, hq4⟩ : ∃ q4, Sp.mkH (Sp.chk Sp.isSp) Sp.T1 1 1 Sp.nB 1 2 = q4 := ⟨_, rfl⟩
  rw [hq4]
  obtain ⟨qa, qb⟩ := q4
  have HB4 : Hid (Below w.heap.size w w4) := HBW.out.trans (hb4.mono HBW.out.size)
  have HX4 : Hid (w4.heap[w3.heap.size]? = some (BH 1 1)) := (hb4.block _ hl3).trans HX3.out
  obtain ⟨W4, hW4⟩ : ∃ W4, W4 = w4.alloc (BH qa qb) := ⟨_, rfl⟩
  have HBW4 : Hid (Below w.heap.size w W4) := by show Below _ _ _; rw [hW4]; exact HB4.out.alloc HB4.out.size _
  have hl4 : w3.heap.size < w4.heap.size := (Array.getElem?_eq_some_iff.1 HX4.out).1
  have HXW4 : Hid (W4.heap[w3.heap.size]? = some (BH 1 1)) := by show W4.heap[w3.heap.size]? = _; rw [hW4]; exact (Below.heap_alloc _ _ _ hl4).trans HX4.out
  have HT4 : Hid (TabW W4 u4 L4 ∧ pl L4 = Sp.T2) := ⟨by rw [hW4]; exact tab_wide (ht4.up ((Below.refl _ _).alloc (Nat.le_refl _) _)), hp4⟩
  have HOK : Hid (Sp.okN L4) := okN_of hp4 okT2
  obtain ⟨ao4, cap4, rfl, -, -⟩ := ht4.open
  obtain ⟨n4, hn4⟩ : ∃ n4, L4.length = n4 := ⟨_, rfl⟩
  rw [hn4] at HT4 ⊢
  clear ht4 hp4 hb4 HT3 hq4 hn4
  have HSG : Hid (∀ V : World, Below W4.heap.size W4 V → V.cell? ⟨w3.heap.size, 0, none⟩ = some (.int .i64 1) ∧ V.cell? ⟨w3.heap.size, 1, none⟩ = some (.int .i64 1)) := fun V h => by
    obtain ⟨⟨a0, a1⟩, _⟩ := two_of HXW4.out
    exact ⟨cell_step a0 h, cell_step a1 h⟩
  have HREN : Hid (∀ V, Below W4.heap.size W4 V → Calls Tryz.prog 26 #[.slice ao4 n4 cap4, .agg #[.int .i64 0, .int .i64 1], .string ⟨#[97]⟩, .agg #[.int .i64 1, .int .i64 1], .string ⟨#[99]⟩, .int .i64 3] V fun e w' => ∃ u, e = .returned (.tuple #[u, .int .i64 410]) ∧ Below V.heap.size V w') := fun V h => by
    refine (srename_any scheck_any isSp_means ins_said _ L4 0 1 Sp.nA 1 1 Sp.nC 3 V (HT4.out.1.up h) HOK.out (by unfold maxLen; decide) (by unfold maxLen; decide)).mono ?_
    rintro e w' ⟨u, L', h1, -, -, h4⟩
    rw [HT4.out.2, Sp.rn2] at h1
    exact ⟨u, h1, h4⟩
  go_wp2_with fail
  rw [← hW4]
  clear hW4
  go_region_held3 (fun V => V.cell? ⟨w3.heap.size, 0, none⟩ = some (.int .i64 1) ∧ V.cell? ⟨w3.heap.size, 1, none⟩ = some (.int .i64 1)) (first | exact HSG.out _ (by (repeat (first | with_reducible assumption | exact Below.refl _ _ | refine bel_drew ?_ | refine Below.setCell ?_ (by first | exact Nat.le_refl _ | assumption) _ | refine Below.alloc ?_ (by first | exact Nat.le_refl _ | assumption) _)))) (first
    | (go_at_call 30; refine (root_any _).mono ?_; rintro e w5 ⟨rfl, hb5⟩; have hb55 : Below W4.heap.size W4 w5 := undrew hb5; clear hb5)
    | (go_at_call 26; refine (HREN.out _ (by (repeat (first | with_reducible assumption | exact Below.refl _ _ | refine bel_drew ?_ | refine Below.setCell ?_ (by first | exact Nat.le_refl _ | assumption) _ | refine Below.alloc ?_ (by first | exact Nat.le_refl _ | assumption) _)))).mono ?_; rintro e w6 ⟨u6, rfl, hb6⟩; have hb66 : Below W4.heap.size W4 w6 := hb55.trans (hb6.mono hb55.size)))
  all_goals
    have HB6 : Hid (Below w.heap.size w w6) := HBW4.out.trans (hb66.mono HBW4.out.size)
    have HT6 : Hid (TabW w6 (.slice ao4 n4 cap4) L4 ∧ pl L4 = Sp.T2) := ⟨HT4.out.1.up hb66, HT4.out.2⟩
    clear hb66 hb6 hb55 HREN HSG
    go_wp2_with fail
    refine (root_any _).mono ?_
    rintro e w7 ⟨rfl, hb7⟩
    have HB7 : Hid (Below w.heap.size w w7) := HB6.out.trans (hb7.mono HB6.out.size)
    have HT7 : Hid (TabW w7 (.slice ao4 n4 cap4) L4 ∧ pl L4 = Sp.T2) := ⟨HT6.out.1.up hb7, HT6.out.2⟩
    clear hb7
    go_wp2_with fail
    refine (srmdir_any scheck_any isSp_means _ L4 0 1 Sp.nA 3 _ HT7.out.1 HOK.out (by unfold maxLen; decide)).mono ?_
    rintro e w8 ⟨u8, L8, rfl, -, -, hb8⟩
    rw [HT7.out.2, Sp.rm2]
    have HB8 : Hid (Below w.heap.size w w8) := HB7.out.trans (hb8.mono HB7.out.size)
    have HT8 : Hid (TabW w8 (.slice ao4 n4 cap4) L4 ∧ pl L4 = Sp.T2) := ⟨HT7.out.1.up hb8, HT7.out.2⟩
    clear hb8
    go_wp2_with fail
    refine (paths_any _ L4 _ HT8.out.1 HOK.out).mono ?_
    rintro e w9 ⟨u9, rfl, ho9, hb9⟩
    rw [HT8.out.2, Sp.pt2] at ho9
    have HB9 : Hid (Below w.heap.size w w9) := HB8.out.trans (hb9.mono HB8.out.size)
    have HO9 : Hid (AtW ETx w9 u9 [⟨#[47]⟩, ⟨#[47, 97]⟩, ⟨#[47, 97, 47, 98]⟩]) := ho9
    obtain ⟨p9, c9, rfl, -, -⟩ := ho9.open
    clear ho9 hb9
    obtain ⟨Wz, hWz⟩ : ∃ Wz, Wz = w9.alloc (.cells #[.string ⟨#[47]⟩, .string ⟨#[47, 97]⟩, .string ⟨#[47, 97, 47, 98]⟩] 9) := ⟨_, rfl⟩
    have HBz : Hid (Below w.heap.size w Wz) := by show Below _ _ _; rw [hWz]; exact HB9.out.alloc HB9.out.size _
    have HOz : Hid (AtW ETx Wz (.slice p9 3 c9) [⟨#[47]⟩, ⟨#[47, 97]⟩, ⟨#[47, 97, 47, 98]⟩]) := by show AtW _ _ _ _; rw [hWz]; exact HO9.out.up ((Below.refl _ _).alloc (Nat.le_refl _) _)
    have HPz : Hid (AtW ETx Wz (.slice (some ⟨w9.heap.size, 0, none⟩) 3 3) [⟨#[47]⟩, ⟨#[47, 97]⟩, ⟨#[47, 97, 47, 98]⟩]) := by
      show AtW _ _ _ _
      rw [hWz]
      exact at_threeT (heap_alloc_new _ _)
    go_wp2_with fail
    rw [← hWz]
    clear hWz
    refine (texts_same _ _ _ _ HOz.out HPz.out).mono ?_
    rintro e wE ⟨rfl, hbE⟩
    have HBE : Hid (Below w.heap.size w wE) := HBz.out.trans (hbE.mono HBz.out.size)
    clear hbE
    go_wp2
    go_ret
    exact ⟨rfl, HBE.out⟩
end Go.Proofs.YtacghcoikekfeaaGreat
