/-
  The small case that every statement of the layer asks: two names, of which one is removed.
-/
import Derived.Test.YtlpnkcolpgodjaaRem
namespace Go.Proofs.Ytlpnkcolpgodjaa
open Go.ChangeShapes Go.WideShapes Go.ChangeAt Go.RowKit Go.Deep
namespace Fo
abbrev sa : ByteArray := ⟨#[97]⟩
abbrev sb : ByteArray := ⟨#[98]⟩
abbrev ea : Ent := (sa, 1, 1, 1)
abbrev eb : Ent := (sb, 2, 1, 1)
theorem ok_a : Nm.ok sa := ⟨by decide, by decide, fun h => by simp [sa] at h, fun h => by simp [sa] at h, fun i h _ => by
  have : i = 0 := by simp [ByteArray.size] at h; exact h
  subst this
  exact ⟨by show (97 : UInt8).toNat ≠ 47; decide, by show (97 : UInt8).toNat ≠ 0; decide⟩⟩
theorem ok_b : Nm.ok sb := ⟨by decide, by decide, fun h => by simp [sb] at h, fun h => by simp [sb] at h, fun i h _ => by
  have : i = 0 := by simp [ByteArray.size] at h; exact h
  subst this
  exact ⟨by show (98 : UInt8).toNat ≠ 47; decide, by show (98 : UInt8).toNat ≠ 0; decide⟩⟩
theorem ho_one : Ho 1 1 := by decide
theorem right_0 : Right [] 0 := ⟨by decide, fun i h => by simp at h, List.nodup_nil⟩
theorem good_a (l : List Ent) (next : Int) (h : 1 ≤ next) : good next (ea :: l) 0 := fun x hx => by
  simp at hx
  subst hx
  exact ⟨ok_a, ⟨by simp [lastC], h⟩, ho_one⟩
theorem right_1 : Right [ea] 1 := ⟨by decide, fun i h => by
  have : i = 0 := by simp at h; exact h
  subst this
  exact good_a [] 1 (by decide), by simp [apart]⟩
theorem right_2 : Right [ea, eb] 2 := ⟨by decide, fun i h => by
  simp at h
  rcases (show i = 0 ∨ i = 1 by omega) with rfl | rfl
  · exact good_a _ 2 (by decide)
  · intro x hx
    simp at hx
    subst hx
    exact ⟨ok_b, ⟨by simp [lastC], by simp⟩, ho_one⟩, by simp [apart]⟩
theorem right_3 : Right [eb] 2 := ⟨by decide, fun i h => by
  have : i = 0 := by simp at h; exact h
  subst this
  intro x hx
  simp at hx
  subst hx
  exact ⟨ok_b, ⟨by simp [lastC], by simp⟩, ho_one⟩, by simp [apart]⟩
theorem ask_zero {l : List Ent} {next : Int} {s : ByteArray} (h : Right l next) (k : Nm.ok s) : ask l next s = 0 := (ask_right (err_ok h)).trans (Nm.err_ok k)
theorem aa : called sa ea = true := by simp [called]
theorem ab : called sa eb = false := by simp [called, ByteArray.toList_eq]
theorem ba : called sb ea = false := by simp [called, ByteArray.toList_eq]
theorem bb : called sb eb = true := by simp [called]
theorem add1 : addErr [] 0 sa 1 1 = 0 := add_ok (ask_zero right_0 ok_a) ho_one (at_miss fun j y h => by simp at h) (by decide)
theorem add2 : addErr [ea] 1 sb 1 1 = 0 := add_ok (ask_zero right_1 ok_b) ho_one (at_miss fun j y h hy => by
  have : j = 0 := by simp at h; exact h
  subst this
  simp at hy
  subst hy
  exact ba) (by decide)
theorem rem1 : findErr [ea, eb] 2 sa = 0 ∧ plc [ea, eb] 2 sa = (0 : Nat) := findErr_hit (ask_zero right_2 ok_a) (at_hit (x := ea) rfl aa fun j y h => by omega)
theorem find1 : findErr [eb] 2 sb = 0 ∧ plc [eb] 2 sb = (0 : Nat) := findErr_hit (ask_zero right_3 ok_b) (at_hit (x := eb) rfl bb fun j y h => by omega)
theorem find1' : found [eb] 2 sb = eb := found_hit find1.1 find1.2 rfl
theorem find2 : findErr [eb] 2 sa = 402 := (findErr_miss (ask_zero right_3 ok_a) (at_miss fun j y h hy => by
  have : j = 0 := by simp at h; exact h
  subst this
  simp at hy
  subst hy
  exact ab)).1
end Fo
theorem hand_cells (w : World) : (w.alloc (BH 1 1)).cell? ⟨w.heap.size, 0, none⟩ = some (.int .i64 1) ∧ (w.alloc (BH 1 1)).cell? ⟨w.heap.size, 1, none⟩ = some (.int .i64 1) := by
  have hh := heap_alloc_new w (BH 1 1)
  constructor <;> simp only [World.cell?, hh] <;> rfl
theorem small (x : Ent) (l : List Ent) (h : x.1.size ≤ 32 ∧ ∀ y ∈ l, y.1.size ≤ 32) : ∀ y ∈ x :: l, y.1.size ≤ maxLen := fun y hy => by
  rcases List.mem_cons.1 hy with rfl | hy
  · exact Nat.le_trans h.1 (by decide)
  · exact Nat.le_trans (h.2 y hy) (by decide)
set_option maxHeartbeats 2000000 in
theorem two_any (w : World) : Calls Try.prog 10 #[] w fun e w' => e = .returned (.bool true) ∧ Below w.heap.size w w' := by
  obtain ⟨h0, h1⟩ := hand_cells w
  go_enter Try.func10, Try.ntmps10
  go_wp2_with fail
  refine (add_any (.slice none 0 0) [] 0 Fo.sa 1 1 _ At.nil (fun x hx => by simp at hx) (by decide)).mono ?_
  rintro e w1 ⟨u1, rfl, hu1, hb1⟩
  rw [Fo.add1, if_pos rfl] at hu1
  rw [Fo.add1, if_pos rfl]
  obtain ⟨q1, c1, rfl, -, -⟩ := hu1.open
  have g0 := cell_step h0 hb1
  have g1 := cell_step h1 hb1
  have HU1 : Hid (AtW EE w1 (.slice q1 1 c1) [Fo.ea]) := hu1.wide
  have HB1 : Hid (Below w.heap.size w w1) := ((Below.refl _ w).alloc (Nat.le_refl _) _).trans (hb1.mono (by simp))
  have k0 := (cell_older (cell_lt g0) (BD (.slice q1 1 c1) 1) 0).trans g0
  have k1 := (cell_older (cell_lt g1) (BD (.slice q1 1 c1) 1) 1).trans g1
  have HU1' : Hid (AtW EE (w1.alloc (BD (.slice q1 1 c1) 1)) (.slice q1 1 c1) [Fo.ea]) := HU1.out.up ((Below.refl _ _).alloc (Nat.le_refl _) _)
  have HB1' : Hid (Below w.heap.size w (w1.alloc (BD (.slice q1 1 c1) 1))) := HB1.out.alloc HB1.out.size _
  clear hu1 hb1 h0 h1 g0 g1
  go_wp2_with fail
  refine (add_any _ [Fo.ea] 1 Fo.sb 1 1 _ HU1'.out (small _ _ ⟨by decide, fun y hy => by simp at hy⟩) (by decide)).mono ?_
  rintro e w2 ⟨u2, rfl, hu2, hb2⟩
  rw [Fo.add2, if_pos rfl] at hu2
  rw [Fo.add2, if_pos rfl]
  obtain ⟨q2, c2, rfl, -, -⟩ := hu2.open
  have HB2 : Hid (Below w.heap.size w (w2.alloc (BD (.slice q2 2 c2) 2))) := (HB1'.out.trans (hb2.mono HB1'.out.size)).alloc (HB1'.out.trans (hb2.mono HB1'.out.size)).size _
  have HU2 : Hid (AtW EE (w2.alloc (BD (.slice q2 2 c2) 2)) (.slice q2 2 c2) [Fo.ea, Fo.eb]) := hu2.wide.up ((Below.refl _ _).alloc (Nat.le_refl _) _)
  clear hu2 hb2 k0 k1
  go_wp2_with fail
  refine (remove_any _ [Fo.ea, Fo.eb] 2 Fo.sa _ HU2.out (small _ _ ⟨by decide, fun y hy => by simp at hy; subst hy; decide⟩) (by decide)).mono ?_
  rintro e w3 ⟨u3, rfl, hu3, hb3⟩
  rw [Fo.rem1.1, Fo.rem1.2, if_pos rfl] at hu3
  rw [Fo.rem1.1, if_pos rfl]
  obtain ⟨q3, c3, rfl, -, -⟩ := hu3.open
  have HB3 : Hid (Below w.heap.size w (w3.alloc (BD (.slice q3 1 c3) 2))) := (HB2.out.trans (hb3.mono HB2.out.size)).alloc (HB2.out.trans (hb3.mono HB2.out.size)).size _
  have HU3 : Hid (AtW EE (w3.alloc (BD (.slice q3 1 c3) 2)) (.slice q3 1 c3) [Fo.eb]) := hu3.wide.up ((Below.refl _ _).alloc (Nat.le_refl _) _)
  obtain ⟨d0, d1⟩ := box_cells w3 (.slice q3 1 c3) 2
  clear hu3 hb3
  go_wp2_with fail
  refine (find_any _ [Fo.eb] 2 Fo.sb _ HU3.out (small _ _ ⟨by decide, fun y hy => by simp at hy⟩) (by decide)).mono ?_
  rintro e w4 ⟨rfl, hb4⟩
  rw [Fo.find1.1, Fo.find1']
  have f0 := (cell_older (cell_lt (cell_step d0 hb4)) (BE Fo.eb) 0).trans (cell_step d0 hb4)
  have f1 := (cell_older (cell_lt (cell_step d1 hb4)) (BE Fo.eb) 1).trans (cell_step d1 hb4)
  have HB4 : Hid (Below w.heap.size w (w4.alloc (BE Fo.eb))) := (HB3.out.trans (hb4.mono HB3.out.size)).alloc (HB3.out.trans (hb4.mono HB3.out.size)).size _
  have HU4 : Hid (AtW EE (w4.alloc (BE Fo.eb)) (.slice q3 1 c3) [Fo.eb]) := (HU3.out.up hb4).up ((Below.refl _ _).alloc (Nat.le_refl _) _)
  have x1 : (w4.alloc (BE Fo.eb)).cell? ⟨w4.heap.size, 1, none⟩ = some (.int .i64 2) := (four_of (heap_alloc_new w4 (BE Fo.eb))).1.2.1
  clear hb4 d0 d1
  go_wp2_with fail
  refine (find_any _ [Fo.eb] 2 Fo.sa _ HU4.out (small _ _ ⟨by decide, fun y hy => by simp at hy⟩) (by decide)).mono ?_
  rintro e w5 ⟨rfl, hb5⟩
  rw [Fo.find2, Fo.found_no Fo.find2 (by decide), show Fo.zeroE = ((⟨#[]⟩, 0, 0, 0) : Ent) from rfl]
  have r0 := (cell_older (cell_lt (cell_step f0 hb5)) BZE 0).trans (cell_step f0 hb5)
  have r1 := (cell_older (cell_lt (cell_step f1 hb5)) BZE 1).trans (cell_step f1 hb5)
  have r2 := (cell_older (cell_lt (cell_step x1 hb5)) BZE 1).trans (cell_step x1 hb5)
  have HB5 : Hid (Below w.heap.size w (w5.alloc BZE)) := (HB4.out.trans (hb5.mono HB4.out.size)).alloc (HB4.out.trans (hb5.mono HB4.out.size)).size _
  clear hb5 f0 f1 x1
  go_wp2
  go_ret
  exact ⟨rfl, HB5.out⟩
end Go.Proofs.Ytlpnkcolpgodjaa
