/-
  The texts KFields, KPack, SCall, STick, WUnp, WUnpk, SLet, as one.
-/
import Derived.Test.YtkdhbjmpjbdobaaGreatDoorM14
/- KFields -/
namespace Go.Proofs.YtkdhbjmpjbdobaaGreatDoor.Ks
open Go.ChangeShapes Go.WideShapes Go.ChangeAt Go.RowKit Go.Deep
set_option maxRecDepth 100000
open Ak

/-- The call's box and the fields so far. -/
def Fr (A n0 b : Nat) (c : Cl) (l : List (Int × ByteArray)) (w0 : World) (v : Value) (w : World) : Prop := w.heap[A]? = some (BC c) ∧ St n0 b l w0 v w
theorem Fr.step {A n0 b : Nat} {c : Cl} {l : List (Int × ByteArray)} {w0 w w' : World} {v : Value} (h : Fr A n0 b c l w0 v w) (hb : Below w.heap.size w w') : Fr A n0 b c l w0 v w' := ⟨block_step h.1 hb, h.2.step hb⟩
theorem Fr.two {A n0 b : Nat} {c : Cl} {l : List (Int × ByteArray)} {w0 w w' : World} {v : Value} {i j : Nat} {x y : Value} (h : w.cell? ⟨A, i, none⟩ = some x ∧ w.cell? ⟨A, j, none⟩ = some y ∧ Fr A n0 b c l w0 v w) (hb : Below w.heap.size w w') :
    w'.cell? ⟨A, i, none⟩ = some x ∧ w'.cell? ⟨A, j, none⟩ = some y ∧ Fr A n0 b c l w0 v w' := ⟨cell_step h.1 hb, cell_step h.2.1 hb, h.2.2.step hb⟩
theorem Fr.drew {A n0 b : Nat} {c : Cl} {l : List (Int × ByteArray)} {w0 w : World} {v : Value} (h : Fr A n0 b c l w0 v w) : Fr A n0 b c l w0 v w.drew := ⟨h.1, ⟨h.2.box, h.2.row, h.2.below.drew, h.2.base, h.2.start⟩⟩
theorem neq_hand (no gen : Int) (w : World) : (binOp .neq 32 (VH no gen) (VH 0 0)).run Tryz.prog w = .ok (.bool (hnz no gen)) w := by
  unfold hnz
  cases h1 : (no == 0) <;> cases h2 : (gen == 0) <;> go_simp <;> simp [h1, h2]
theorem held_below {A i j : Nat} {x y : Value} {o : Obj} {w w' : World} (h : w.cell? ⟨A, i, none⟩ = some x ∧ w.cell? ⟨A, j, none⟩ = some y ∧ w.heap[A]? = some o) (hb : Below w.heap.size w w') :
    w'.cell? ⟨A, i, none⟩ = some x ∧ w'.cell? ⟨A, j, none⟩ = some y ∧ w'.heap[A]? = some o := ⟨cell_step h.1 hb, cell_step h.2.1 hb, block_step h.2.2 hb⟩
theorem held_others {A b i j : Nat} {x y : Value} {c : Cl} {w w' : World} (hne : A ≠ b) (h : w.cell? ⟨A, i, none⟩ = some x ∧ w.cell? ⟨A, j, none⟩ = some y ∧ w.heap[A]? = some (BC c)) (ho : Others b w w') :
    w'.cell? ⟨A, i, none⟩ = some x ∧ w'.cell? ⟨A, j, none⟩ = some y ∧ w'.heap[A]? = some (BC c) := by
  have h3 := ho A _ _ (by decide) hne h.2.2
  have e : w'.heap[A]? = w.heap[A]? := h3.trans h.2.2.symm
  exact ⟨by simp only [World.cell?, e]; exact h.1, by simp only [World.cell?, e]; exact h.2.1, h3⟩
theorem len_opt (l : List (Int × ByteArray)) (b : Bool) (y : Int × ByteArray) : (l ++ opt b y).length ≤ l.length + 1 := by
  unfold opt
  cases b <;> simp
theorem lens (c : Cl) : (f1 c).length ≤ 1000 ∧ (f2 c).length ≤ 1000 ∧ (f3 c).length ≤ 1000 ∧ (f4 c).length ≤ 1000 ∧ (f5 c).length ≤ 1000 ∧ (f6 c).length ≤ 1000 ∧ (f7 c).length ≤ 1000 := by
  have h1 : (f1 c).length = 1 := rfl
  have h2 : (f2 c).length ≤ (f1 c).length + 1 := len_opt _ _ _
  have h3 : (f3 c).length ≤ (f2 c).length + 1 := len_opt _ _ _
  have h4 : (f4 c).length ≤ (f3 c).length + 1 := len_opt _ _ _
  have h5 : (f5 c).length ≤ (f4 c).length + 1 := len_opt _ _ _
  have h6 : (f6 c).length ≤ (f5 c).length + 1 := len_opt _ _ _
  have h7 : (f7 c).length ≤ (f6 c).length + 1 := len_opt _ _ _
  omega
theorem start (n0 : Nat) (w0 w1 : World) (h : Below n0 w0 w1) (hn : n0 ≤ w0.heap.size) (tag : Int) (s : ByteArray) :
    St n0 (w1.heap.size + 1) [(tag, s)] w0 (.slice (some ⟨w1.heap.size, 0, none⟩) 1 1) ((w1.alloc (.cells #[.int .i64 tag, .string s] 168)).alloc (.cells #[.slice (some ⟨w1.heap.size, 0, none⟩) 1 1] 117)) := by
  have hs := h.size
  refine ⟨?_, ⟨rfl, .inr ⟨w1.heap.size, 1, #[.int .i64 tag, .string s], rfl, by omega, ?_, Nat.le_refl _, by decide, rfl, rfl⟩⟩, (h.alloc (by omega) _).alloc (by simp; omega) _, by omega, hn⟩
  · have := Boxed.new (w1.alloc (.cells #[.int .i64 tag, .string s] 168)) 117 (.slice (some ⟨w1.heap.size, 0, none⟩) 1 1)
    rw [World.size_alloc] at this
    exact this
  · exact (Below.heap_alloc _ _ _ (by simp)).trans (heap_alloc_new w1 _)
set_option maxRecDepth 100000 in
set_option maxHeartbeats 4000000 in
theorem fields_any (c : Cl) (w : World) (hr : rightP c) :
    Calls Tryz.prog 54 #[VC c] w fun e w' => ∃ v, e = .returned v ∧ FieldsAt w'.heap.size w' v (fields c) ∧ Below w.heap.size w w' := by
  have HK : Hid (c.k ≤ 9223372036854775807) := by have := hr.1; show c.k ≤ _; omega
  have HH : Hid ((c.no ≤ 9223372036854775807 ∧ c.gen ≤ 9223372036854775807) ∧ c.no2 ≤ 9223372036854775807 ∧ c.gen2 ≤ 9223372036854775807) := by
    obtain ⟨-, ⟨⟨-, h1⟩, -, h2⟩, ⟨⟨-, h3⟩, -, h4⟩, -⟩ := hr
    exact ⟨⟨by omega, by omega⟩, by omega, by omega⟩
  have HN : Hid (c.pl ≤ 9223372036854775807 ∧ c.n ≤ 9223372036854775807) := by
    obtain ⟨-, -, -, -, -, ⟨-, h1⟩, ⟨-, h2⟩, -⟩ := hr
    exact ⟨by omega, by omega⟩
  clear hr
  go_enter Tryz.func54, Tryz.ntmps54
  go_wp2_with fail
  refine (num_s c.k 1 _ HK.out).mono ?_
  rintro e w1 ⟨rfl, hb1⟩
  have HB0 : Hid (Below w.heap.size w w1) := ((Below.refl _ _).alloc (Nat.le_refl _) _).trans (hb1.mono (by simp))
  have HA0 : Hid (w1.heap[w.heap.size]? = some (BC c)) := block_step (heap_alloc_new w (BC c)) hb1
  have HS0 : Hid (St w.heap.size (w1.heap.size + 1) (f1 c) w _ _) := start w.heap.size w w1 HB0.out (Nat.le_refl _) 1 (Pl.numOut c.k 1)
  generalize Pl.numOut c.k 1 = n1 at *
  go_wp2_with fail
  have HF1 : Hid (Fr w.heap.size w.heap.size (w1.heap.size + 1) c (f1 c) w (.slice (some ⟨w1.heap.size, 0, none⟩) 1 1) ((w1.alloc (.cells #[.int .i64 1, .string n1] 168)).alloc (.cells #[.slice (some ⟨w1.heap.size, 0, none⟩) 1 1] 117))) :=
    ⟨(Below.heap_alloc _ _ _ (by have := block_lt HA0.out; simp; omega)).trans ((Below.heap_alloc _ _ _ (block_lt HA0.out)).trans HA0.out), HS0.out⟩
  have HNE : Hid (w.heap.size ≠ w1.heap.size + 1) := by have := block_lt HA0.out; show _ ≠ _; omega
  have hbx : w.heap.size < w1.heap.size := block_lt HA0.out
  generalize (w1.alloc (.cells #[.int .i64 1, .string n1] 168)).alloc (.cells #[.slice (some ⟨w1.heap.size, 0, none⟩) 1 1] 117) = W at *
  generalize w1.heap.size + 1 = b at *
  generalize Value.slice (some ⟨w1.heap.size, 0, none⟩) 1 1 = v1 at *
  obtain ⟨A, hA⟩ : ∃ A, w.heap.size = A := ⟨_, rfl⟩
  rw [hA] at HF1 HNE ⊢
  have HAA : Hid (w.heap.size = A) := hA
  clear hb1 HB0 HA0 HS0 hbx hA
  have HL : Hid ((f1 c).length ≤ 1000) := by show (f1 c).length ≤ 1000; simp [f1]
  have HC1 : Hid (W.cell? ⟨A, 1, none⟩ = some (.int .i64 c.no) ∧ W.cell? ⟨A, 2, none⟩ = some (.int .i64 c.gen) ∧ W.heap[A]? = some (BC c)) := ⟨(ten_of HF1.out.1).2.1, (ten_of HF1.out.1).2.2.1, HF1.out.1⟩
  have hng1 : ∀ w', (binOp .neq 32 (VH c.no c.gen) (VH 0 0)).run Tryz.prog w' = .ok (.bool (hnz c.no c.gen)) w' := neq_hand _ _
  go_region_held3 (fun w' => w'.cell? ⟨A, 1, none⟩ = some (.int .i64 c.no) ∧ w'.cell? ⟨A, 2, none⟩ = some (.int .i64 c.gen) ∧ w'.heap[A]? = some (BC c)) (first | exact HC1.out | assumption | exact held_below (by assumption) (by assumption) | exact held_others HNE.out (by assumption) (by assumption)) (first
    | (go_at_call 92; refine (packHandle_any c.no c.gen _ HH.out.1.1 HH.out.1.2).mono ?_; rintro e x1 ⟨rfl, hb1⟩)
    | (go_at_call 91; refine (add_any (hnz c.no c.gen) 2 (hbytes c.no c.gen) A b (f1 c) w v1 _ (HF1.out.drew.step hb1).2 (lens c).1).mono ?_; rintro e w2 ⟨rfl, v2, hst2, ho2⟩))
  have HF2 : Hid (Fr A A b c (f2 c) w v2 w2) := ⟨ho2 A _ _ (by decide) HNE.out (HF1.out.drew.step hb1).1, hst2⟩
  clear hst2 ho2 hb1 HC1 HF1 hng1
  go_wp2_with fail
  have HC2 : Hid (w2.cell? ⟨A, 3, none⟩ = some (.int .i64 c.no2) ∧ w2.cell? ⟨A, 4, none⟩ = some (.int .i64 c.gen2) ∧ w2.heap[A]? = some (BC c)) := ⟨(ten_of HF2.out.1).2.2.2.1, (ten_of HF2.out.1).2.2.2.2.1, HF2.out.1⟩
  have hng2 : ∀ w', (binOp .neq 32 (VH c.no2 c.gen2) (VH 0 0)).run Tryz.prog w' = .ok (.bool (hnz c.no2 c.gen2)) w' := neq_hand _ _
  go_region_held3 (fun w' => w'.cell? ⟨A, 3, none⟩ = some (.int .i64 c.no2) ∧ w'.cell? ⟨A, 4, none⟩ = some (.int .i64 c.gen2) ∧ w'.heap[A]? = some (BC c)) (first | exact HC2.out | assumption | exact held_below (by assumption) (by assumption) | exact held_others HNE.out (by assumption) (by assumption)) (first
    | (go_at_call 92; refine (packHandle_any c.no2 c.gen2 _ HH.out.2.1 HH.out.2.2).mono ?_; rintro e x2 ⟨rfl, hb2⟩)
    | (go_at_call 91; refine (add_any (hnz c.no2 c.gen2) 3 (hbytes c.no2 c.gen2) A b (f2 c) w v2 _ (HF2.out.drew.step hb2).2 (lens c).2.1).mono ?_; rintro e w3 ⟨rfl, v3, hst3, ho3⟩))
  have HF3 : Hid (Fr A A b c (f3 c) w v3 w3) := ⟨ho3 A _ _ (by decide) HNE.out (HF2.out.drew.step hb2).1, hst3⟩
  clear hst3 ho3 hb2 HC2 HF2 hng2
  have c3 : w3.cell? ⟨A, 5, none⟩ = some (.string c.nm) := (ten_of HF3.out.1).2.2.2.2.2.1
  go_wp2_with fail
  refine (add_any (!c.nm.toList.isEmpty) 4 c.nm A b (f3 c) w v3 _ HF3.out.2 (lens c).2.2.1).mono ?_
  rintro e w4 ⟨rfl, v4, hst4, ho4⟩
  have HF4 : Hid (Fr A A b c (f4 c) w v4 w4) := ⟨ho4 A _ _ (by decide) HNE.out HF3.out.1, hst4⟩
  clear hst4 ho4 c3 HF3
  have c4 : w4.cell? ⟨A, 6, none⟩ = some (.string c.nm2) := (ten_of HF4.out.1).2.2.2.2.2.2.1
  go_wp2_with fail
  refine (add_any (!c.nm2.toList.isEmpty) 5 c.nm2 A b (f4 c) w v4 _ HF4.out.2 (lens c).2.2.2.1).mono ?_
  rintro e w5 ⟨rfl, v5, hst5, ho5⟩
  have HF5 : Hid (Fr A A b c (f5 c) w v5 w5) := ⟨ho5 A _ _ (by decide) HNE.out HF4.out.1, hst5⟩
  clear hst5 ho5 c4 HF4
  go_wp2_with fail
  have HC5 : Hid (w5.cell? ⟨A, 7, none⟩ = some (.int .i64 c.pl) ∧ w5.cell? ⟨A, 7, none⟩ = some (.int .i64 c.pl) ∧ w5.heap[A]? = some (BC c)) := ⟨(ten_of HF5.out.1).2.2.2.2.2.2.2.1, (ten_of HF5.out.1).2.2.2.2.2.2.2.1, HF5.out.1⟩
  go_region_held3 (fun w' => w'.cell? ⟨A, 7, none⟩ = some (.int .i64 c.pl) ∧ w'.cell? ⟨A, 7, none⟩ = some (.int .i64 c.pl) ∧ w'.heap[A]? = some (BC c)) (first | exact HC5.out | assumption | exact held_below (by assumption) (by assumption) | exact held_others HNE.out (by assumption) (by assumption)) (first
    | (go_at_call 90; refine (num_s c.pl 4 _ HN.out.1).mono ?_; rintro e x5 ⟨rfl, hb5⟩)
    | (go_at_call 91; refine (add_any (c.pl != 0) 6 (Pl.numOut c.pl 4) A b (f5 c) w v5 _ (HF5.out.drew.step hb5).2 (lens c).2.2.2.2.1).mono ?_; rintro e w6 ⟨rfl, v6, hst6, ho6⟩))
  have HF6 : Hid (Fr A A b c (f6 c) w v6 w6) := ⟨ho6 A _ _ (by decide) HNE.out (HF5.out.drew.step hb5).1, hst6⟩
  clear hst6 ho6 hb5 HC5 HF5
  go_wp2_with fail
  have HC6 : Hid (w6.cell? ⟨A, 8, none⟩ = some (.int .i64 c.n) ∧ w6.cell? ⟨A, 8, none⟩ = some (.int .i64 c.n) ∧ w6.heap[A]? = some (BC c)) := ⟨(ten_of HF6.out.1).2.2.2.2.2.2.2.2.1, (ten_of HF6.out.1).2.2.2.2.2.2.2.2.1, HF6.out.1⟩
  go_region_held3 (fun w' => w'.cell? ⟨A, 8, none⟩ = some (.int .i64 c.n) ∧ w'.cell? ⟨A, 8, none⟩ = some (.int .i64 c.n) ∧ w'.heap[A]? = some (BC c)) (first | exact HC6.out | assumption | exact held_below (by assumption) (by assumption) | exact held_others HNE.out (by assumption) (by assumption)) (first
    | (go_at_call 90; refine (num_s c.n 2 _ HN.out.2).mono ?_; rintro e x6 ⟨rfl, hb6⟩)
    | (go_at_call 91; refine (add_any (c.n != 0) 7 (Pl.numOut c.n 2) A b (f6 c) w v6 _ (HF6.out.drew.step hb6).2 (lens c).2.2.2.2.2.1).mono ?_; rintro e w7 ⟨rfl, v7, hst7, ho7⟩))
  have HF7 : Hid (Fr A A b c (f7 c) w v7 w7) := ⟨ho7 A _ _ (by decide) HNE.out (HF6.out.drew.step hb6).1, hst7⟩
  clear hst7 ho7 hb6 HC6 HF6
  have c7 : w7.cell? ⟨A, 9, none⟩ = some (.string c.data) := (ten_of HF7.out.1).2.2.2.2.2.2.2.2.2
  go_wp2_with fail
  refine (add_any (!c.data.toList.isEmpty) 8 c.data A b (f7 c) w v7 _ HF7.out.2 (lens c).2.2.2.2.2.2).mono ?_
  rintro e w8 ⟨rfl, v8, hst8, ho8⟩
  have HF8 : Hid (Fr A A b c (fields c) w v8 w8) := ⟨ho8 A _ _ (by decide) HNE.out HF7.out.1, hst8⟩
  clear hst8 ho8 c7 HF7
  have c8 := HF8.out.2.box.cell
  go_wp2
  go_ret
  refine ⟨_, rfl, HF8.out.2.fields, ?_⟩
  rw [HAA.out]
  exact HF8.out.2.below
end Go.Proofs.YtkdhbjmpjbdobaaGreatDoor.Ks
/- KPack -/
namespace Go.Proofs.YtkdhbjmpjbdobaaGreatDoor.Ks
open Go.ChangeShapes Go.WideShapes Go.ChangeAt Go.RowKit Go.Deep
set_option maxRecDepth 100000
open Ak

theorem Ak.packs {c : Cl} (h : rightP c) : Pl.packOut (fields c) = packOut c ∧ packErr c = 0 := by
  have hu := up_fields h
  have hr := right_iff.2 h
  exact ⟨by rw [Pl.packOut, hu.1, if_pos rfl, packOut, if_pos hr], by rw [packErr, if_pos hr]⟩
set_option maxRecDepth 100000 in
set_option maxHeartbeats 2000000 in
theorem askPack_any (c : Cl) (w : World) : Calls Tryz.prog 28 #[VC c] w fun e w' => e = .returned (.tuple #[.string (packOut c), .int .i64 (packErr c)]) ∧ Below w.heap.size w w' := by
  by_cases hr : rightP c
  · have HR : Hid (rightP c) := hr
    have HC : Hid ((if right c then (0 : Int) else 413) = 0) := by show (if right c then (0 : Int) else 413) = 0; rw [if_pos (right_iff.2 hr)]
    have HO : Hid (Pl.packOut (fields c) = packOut c ∧ packErr c = 0) := Ak.packs hr
    have HE : Hid ((Pl.encs (fields c)).length ≤ 1099511627776) := Nat.le_trans (up_fields hr).2.2 (by omega)
    clear hr
    go_enter Tryz.func28, Tryz.ntmps28
    go_wp2_with fail
    refine (check_is c _ 0 HC).mono ?_
    rintro e w1 ⟨rfl, hb1⟩
    have HB1 : Hid (Below w.heap.size w w1) := ((Below.refl _ _).alloc (Nat.le_refl _) _).trans (hb1.mono (by simp))
    obtain ⟨c0, c1, c2, c3, c4, c5, c6, c7, c8, c9⟩ := ten_of (block_step (heap_alloc_new w (BC c)) hb1)
    clear hb1
    go_wp2_with fail
    refine (fields_any c _ HR.out).mono ?_
    rintro e w2 ⟨v2, rfl, hf2, hb2⟩
    have HB2 : Hid (Below w.heap.size w w2) := HB1.out.trans (hb2.mono HB1.out.size)
    have HF2 : Hid (FieldsAt w2.heap.size w2 v2 (fields c)) := hf2
    clear hb2 hf2 c0 c1 c2 c3 c4 c5 c6 c7 c8 c9
    go_wp2_with fail
    refine (pack_any _ _ _ HF2.out HE.out).mono ?_
    rintro e w3 ⟨rfl, hb3⟩
    rw [HO.out.1]
    go_wp2
    go_ret2
    rw [HO.out.2]
    exact ⟨rfl, HB2.out.trans (hb3.mono HB2.out.size)⟩
  · have hw := wrong_iff.2 hr
    have HC : Hid ((if right c then (0 : Int) else 413) = 413) := by show (if right c then (0 : Int) else 413) = 413; rw [hw]; rfl
    have HO : Hid (packOut c = ⟨#[]⟩ ∧ packErr c = 413) := ⟨by simp [packOut, hw], by simp [packErr, hw]⟩
    clear hr hw
    go_enter Tryz.func28, Tryz.ntmps28
    go_wp2_with fail
    refine (check_is c _ 413 HC).mono ?_
    rintro e w1 ⟨rfl, hb1⟩
    have HB1 : Hid (Below w.heap.size w w1) := ((Below.refl _ _).alloc (Nat.le_refl _) _).trans (hb1.mono (by simp))
    go_wp2
    go_ret2
    rw [HO.out.1, HO.out.2]
    exact ⟨rfl, HB1.out⟩
def Ak.c0 : Cl := ⟨1, 0, 1, 0, 0, ⟨#[97]⟩, ⟨#[]⟩, 0, 0, ⟨#[]⟩⟩
theorem look_out : packOut Ak.c0 = ⟨#[1, 0, 1, 1, 2, 0, 7, 0, 0, 0, 0, 0, 0, 1, 4, 0, 1, 97]⟩ ∧ packErr Ak.c0 = 0 := by decide +kernel
end Go.Proofs.YtkdhbjmpjbdobaaGreatDoor.Ks
/- SCall -/
namespace Go.Proofs.YtkdhbjmpjbdobaaGreatDoor
open Go.ChangeShapes Go.WideShapes Go.ChangeAt Go.RowKit Go.Deep
set_option maxRecDepth 100000
open Sk
namespace Sk
abbrev Cl := Ks.Ak.Cl
def full (s : Sb) : Bool := ((s.L.length : Nat) : Int) == 64 || s.r == 1099511627776
def callE (c : Cl) (s : Sb) : Int := if Ks.Ak.packErr c ≠ 0 then Ks.Ak.packErr c else if bz s then 7 else if full s then 5 else 0
def rq (s : Sb) (b : ByteArray) : ByteArray := Me.packed (mk 1 0 s.r s.id b)
def callS (c : Cl) (s : Sb) : Sb := { s with r := s.r + 1, lt := Me.packed (mk 1 0 (s.r + 1) s.id (Ks.Ak.packOut c)), g := false }
theorem askSz (c : Cl) : (Ks.Ak.packOut c).size ≤ 8192 := by
  unfold Ks.Ak.packOut
  split
  · rename_i h
    have := (Ks.Ak.back h).2.2
    rw [Pl.txt_size]
    omega
  · exact Nat.zero_le _
theorem askEr (c : Cl) : Ks.Ak.packErr c = 0 ∨ Ks.Ak.packErr c = 413 := by
  unfold Ks.Ak.packErr
  split
  · exact .inl rfl
  · exact .inr rfl
end Sk
theorem call_nil (c : Cl) (w : World) : Calls Tryz.prog 9 #[.pointer none, Ks.VC c] w fun e w' => e = .returned (.tuple #[.slice none 0 0, .int .i64 (if Ks.Ak.packErr c ≠ 0 then Ks.Ak.packErr c else 7)]) ∧ Below w.heap.size w w' := by
  obtain ⟨W, hW⟩ : ∃ W, w.alloc (Ks.BC c) = W := ⟨_, rfl⟩
  have HB : Hid (Below w.heap.size w W) := by rw [← hW]; exact below_alloc _ _
  obtain ⟨d0, d1, d2, d3, d4, d5, d6, d7, d8, d9⟩ := Ks.ten_of (heap_alloc_new w (Ks.BC c))
  rw [hW] at d0 d1 d2 d3 d4 d5 d6 d7 d8 d9
  rcases askEr c with hp | hp
  · rw [hp]
    go_enter Tryz.func9, Tryz.ntmps9
    go_wp2_with fail
    refine (Ks.askPack_any c _).mono ?_
    rintro e w1 ⟨rfl, hb1⟩
    have HB1 : Hid (Below w.heap.size w w1) := bup HB.out hb1
    rw [hp]
    clear hb1 d0 d1 d2 d3 d4 d5 d6 d7 d8 d9
    go_wp2_with fail
    refine (how_nil _).mono ?_
    rintro e w2 ⟨rfl, rfl⟩
    go_wp2
    go_ret2
    exact ⟨rfl, HB1.out⟩
  · rw [hp]
    go_enter Tryz.func9, Tryz.ntmps9
    go_wp2_with fail
    refine (Ks.askPack_any c _).mono ?_
    rintro e w1 ⟨rfl, hb1⟩
    have HB1 : Hid (Below w.heap.size w w1) := bup HB.out hb1
    rw [hp]
    clear hb1 d0 d1 d2 d3 d4 d5 d6 d7 d8 d9
    go_wp2
    go_ret2
    exact ⟨rfl, HB1.out⟩
theorem call_no (c : Cl) (A B cu cn : Nat) (s : Sb) (w : World) (h : Su w A B cu cn s) (hc : callE c s ≠ 0) : Calls Tryz.prog 9 #[.pointer (some ⟨A, 0, none⟩), Ks.VC c] w fun e w' => e = .returned (.tuple #[.slice none 0 0, .int .i64 (callE c s)]) ∧ Su w' A B cu cn s ∧ Ot A B cu cn w w' := by
  obtain ⟨W, hW⟩ : ∃ W, w.alloc (Ks.BC c) = W := ⟨_, rfl⟩
  have HB : Hid (Below w.heap.size w W) := by rw [← hW]; exact below_alloc _ _
  obtain ⟨d0, d1, d2, d3, d4, d5, d6, d7, d8, d9⟩ := Ks.ten_of (heap_alloc_new w (Ks.BC c))
  rw [hW] at d0 d1 d2 d3 d4 d5 d6 d7 d8 d9
  have H : Hid (Su w A B cu cn s) := h
  clear h
  rcases askEr c with hp | hp
  · cases hb : bz s with
    | true =>
      have he : callE c s = 7 := by unfold callE; rw [hp, hb]; rfl
      rw [he]
      clear hc he
      go_enter Tryz.func9, Tryz.ntmps9
      go_wp2_with fail
      refine (Ks.askPack_any c _).mono ?_
      rintro e w1 ⟨rfl, hb1⟩
      have HB1 : Hid (Below w.heap.size w w1) := bup HB.out hb1
      rw [hp]
      clear hb1 d0 d1 d2 d3 d4 d5 d6 d7 d8 d9
      go_wp2_with fail
      refine (how_any A B cu cn s _ (H.out.up HB1.out)).mono ?_
      rintro e w2 ⟨rfl, rfl⟩
      rw [hb]
      go_wp2
      go_ret2
      exact ⟨rfl, H.out.up HB1.out, Ot.of HB1.out⟩
    | false =>
      cases hf : full s with
      | false => exact absurd (by unfold callE; rw [hp, hb, hf]; rfl) hc
      | true =>
        have he : callE c s = 5 := by unfold callE; rw [hp, hb, hf]; rfl
        rw [he]
        clear hc he
        have HF : Hid ((((s.L.length : Nat) : Int) == 64 || s.r == 1099511627776) = true) := hf
        clear hf
        go_enter Tryz.func9, Tryz.ntmps9
        go_wp2_with fail
        refine (Ks.askPack_any c _).mono ?_
        rintro e w1 ⟨rfl, hb1⟩
        have HB1 : Hid (Below w.heap.size w w1) := bup HB.out hb1
        rw [hp]
        clear hb1 d0 d1 d2 d3 d4 d5 d6 d7 d8 d9
        go_wp2_with fail
        refine (how_any A B cu cn s _ (H.out.up HB1.out)).mono ?_
        rintro e w2 ⟨rfl, rfl⟩
        rw [hb]
        go_wp2_with fail
        refine (isFull_any A B cu cn s _ (H.out.up HB1.out)).mono ?_
        rintro e w3 ⟨rfl, hs3, ho3⟩
        rw [HF.out]
        have H3 : Hid (Su w3 A B cu cn s ∧ Ot A B cu cn w w3) := ⟨hs3, (Ot.of HB1.out).trans ho3⟩
        clear hs3 ho3
        go_wp2
        go_ret2
        exact ⟨rfl, H3.out⟩
  · have he : callE c s = 413 := by unfold callE; rw [hp]; rfl
    rw [he]
    clear hc he
    go_enter Tryz.func9, Tryz.ntmps9
    go_wp2_with fail
    refine (Ks.askPack_any c _).mono ?_
    rintro e w1 ⟨rfl, hb1⟩
    have HB1 : Hid (Below w.heap.size w w1) := bup HB.out hb1
    rw [hp]
    clear hb1 d0 d1 d2 d3 d4 d5 d6 d7 d8 d9
    go_wp2
    go_ret2
    exact ⟨rfl, H.out.up HB1.out, Ot.of HB1.out⟩
theorem undrewB {w w' : World} {n : Nat} (h : Below n w.drew w') : Below n w w' := ⟨h.os, h.tape, h.output, h.size, h.block⟩
theorem call_ok (c : Cl) (A B cu cn : Nat) (s : Sb) (w : World) (h : Su w A B cu cn s) (hT : Po.Tab w) (hid : 0 ≤ s.id ∧ s.id ≤ 31) (hr : 0 ≤ s.r ∧ s.r ≤ 1099511627776) (hc : callE c s = 0) : Calls Tryz.prog 9 #[.pointer (some ⟨A, 0, none⟩), Ks.VC c] w fun e w' => ∃ D v, e = .returned (.tuple #[v, .int .i64 0]) ∧ Out1 w' v D s.t (callS c s).lt ∧ w.heap.size ≤ D ∧ D < w'.heap.size ∧ Su w' A B cu cn (callS c s) ∧ Ot A B cu cn w w' := by
  obtain ⟨W, hW⟩ : ∃ W, w.alloc (Ks.BC c) = W := ⟨_, rfl⟩
  have HB : Hid (Below w.heap.size w W) := by rw [← hW]; exact below_alloc _ _
  obtain ⟨d0, d1, d2, d3, d4, d5, d6, d7, d8, d9⟩ := Ks.ten_of (heap_alloc_new w (Ks.BC c))
  rw [hW] at d0 d1 d2 d3 d4 d5 d6 d7 d8 d9
  have H : Hid (Su w A B cu cn s) := h
  have HT : Hid (Po.Tab w) := hT
  clear h hT
  have hp : Ks.Ak.packErr c = 0 := by
    rcases askEr c with hp | hp
    · exact hp
    · unfold callE at hc; rw [hp] at hc; cases hc
  have hb : bz s = false := by
    cases hb : bz s with
    | false => rfl
    | true => unfold callE at hc; rw [hp, hb] at hc; cases hc
  have hf : full s = false := by
    cases hf : full s with
    | false => rfl
    | true => unfold callE at hc; rw [hp, hb, hf] at hc; cases hc
  have HF : Hid ((((s.L.length : Nat) : Int) == 64 || s.r == 1099511627776) = false) := hf
  have hr2 : s.r + 1 ≤ 1099511627776 := by
    unfold full at hf
    simp only [Bool.or_eq_false_iff, beq_eq_false_iff_ne, ne_eq] at hf
    omega
  have hx : wrap64 (s.r + 1) = s.r + 1 := by unfold wrap64; omega
  obtain ⟨p1, p2, _, _, p5⟩ := mk_pack (k := 1) (v := 0) (r := s.r + 1) (c := s.id) (b := Ks.Ak.packOut c) (by omega) (by omega) (by omega) (by omega) (askSz c)
  have HP : Hid (Me.packOut (mk 1 0 (s.r + 1) s.id (Ks.Ak.packOut c)) = (callS c s).lt ∧ Me.packErr (mk 1 0 (s.r + 1) s.id (Ks.Ak.packOut c)) = 0) := ⟨p1, p2⟩
  clear hf hc p1 p2 p5 hr
  go_enter Tryz.func9, Tryz.ntmps9
  go_wp2_with fail
  refine (Ks.askPack_any c _).mono ?_
  rintro e w1 ⟨rfl, hb1⟩
  have HB1 : Hid (Below w.heap.size w w1) := bup HB.out hb1
  rw [hp]
  clear hb1 d0 d1 d2 d3 d4 d5 d6 d7 d8 d9
  go_wp2_with fail
  refine (how_any A B cu cn s _ (H.out.up HB1.out)).mono ?_
  rintro e w2 ⟨rfl, rfl⟩
  rw [hb]
  go_wp2_with fail
  refine (isFull_any A B cu cn s _ (H.out.up HB1.out)).mono ?_
  rintro e w3 ⟨rfl, hs3, ho3⟩
  rw [HF.out]
  obtain ⟨c0, c1, c2, c3, c4, c5, c6, c7⟩ := hs3.cells
  have g5 := hs3.fr 5
  obtain ⟨X, hX⟩ : ∃ X, w3.setCell ⟨A, 5, none⟩ (.int .i64 (s.r + 1)) = X := ⟨_, rfl⟩
  have H3 : Hid (Su X A B cu cn { s with r := s.r + 1 } ∧ Ot A B cu cn w X) := by
    rw [← hX]
    exact ⟨hs3.setR _, ((Ot.of HB1.out).trans ho3).trans (Ot.set 5 _)⟩
  clear hs3 ho3
  go_wp2_with fail
  clear c0 c1 c2 c3 c4 c5 c6 c7 g5
  have HTX : Hid (Po.Tab X) := H3.out.2.tab H.out HT.out
  obtain ⟨c0, c1, c2, c3, c4, c5, c6, c7⟩ := H3.out.1.cells
  dsimp only at c0 c1 c2 c3 c4 c5 c6 c7
  have HC : Hid (∀ V : World, Below X.heap.size X V → Calls Tryz.prog 27 #[VM (mk 1 0 (s.r + 1) s.id (Ks.Ak.packOut c)) (.slice none 0 0) (.slice none 0 0)] V fun e w' => e = .returned (.tuple #[.string (callS c s).lt, .int .i64 0]) ∧ Below V.heap.size V w') := fun V hV => by
    have := mPack_any (mk 1 0 (s.r + 1) s.id (Ks.Ak.packOut c)) (.slice none 0 0) (.slice none 0 0) V ⟨.inl ⟨_, _, rfl, rfl⟩, .inl ⟨_, _, rfl, rfl⟩⟩ (tab_up HTX.out hV)
    rw [HP.out.1, HP.out.2] at this
    exact this
  generalize hlt : (callS c s).lt = lt at *

  go_region_with (go_at_call 27; refine (HC.out _ (by first | exact Below.refl _ _ | exact bel_drew (Below.refl _ _))).mono ?_; rintro e w5 ⟨rfl, hb5⟩; have hb55 : Below X.heap.size X w5 := (by first | exact hb5 | exact undrewB hb5); have g6 := (H3.out.1.up hb55).fr 6; have k6 := (H3.out.1.up hb55).cells.2.2.2.2.2.2.1; dsimp only at k6; have H5 : Hid (Su (w5.setCell ⟨A, 6, none⟩ (.string lt)) A B cu cn { s with r := s.r + 1, lt := lt } ∧ Ot A B cu cn w (w5.setCell ⟨A, 6, none⟩ (.string lt))) := ⟨(H3.out.1.up hb55).setL lt, (H3.out.2.trans (Ot.of hb55)).trans (Ot.set 6 _)⟩; clear hb5 hb55)
  all_goals
    go_wp2_with fail
    refine (send_any A B cu cn _ _ H5.out.1).mono ?_
    rintro e w6 ⟨D, v, rfl, h6⟩
    have H6 : Hid (Out1 w6 v D s.t lt ∧ w.heap.size ≤ D ∧ D < w6.heap.size ∧ Su w6 A B cu cn { s with r := s.r + 1, lt := lt, g := false } ∧ Ot A B cu cn w w6) := ⟨h6.1, Nat.le_trans H5.out.2.size h6.2.1, h6.2.2.1, h6.2.2.2.1, H5.out.2.trans h6.2.2.2.2⟩
    clear h6
    go_wp2
    go_ret2
    subst hlt
    exact ⟨D, v, rfl, H6.out⟩
end Go.Proofs.YtkdhbjmpjbdobaaGreatDoor
/- STick -/
namespace Go.Proofs.YtkdhbjmpjbdobaaGreatDoor
open Go.ChangeShapes Go.WideShapes Go.ChangeAt Go.RowKit Go.Deep
set_option maxRecDepth 100000
open Sk
namespace Sk
def tickS (f : Int) (s : Sb) : Sb := { s with t := if s.g then s.t else if s.t = f then 0 else s.t + 1, g := false }
def folS (f : Int) (s : Sb) (v : Int) : Sb := if v < s.v then s else { s with v := v, g := true, t := v % (f + 1) }
end Sk
theorem tick_nil (w : World) : Calls Tryz.prog 14 #[.pointer none] w fun e w' => e = .returned (.slice none 0 0) ∧ w' = w := by
  go_enter Tryz.func14, Tryz.ntmps14
  go_wp2_with fail
  refine (how_nil _).mono ?_
  rintro e w1 ⟨rfl, rfl⟩
  go_wp2
  go_ret
  exact ⟨rfl, rfl⟩
theorem tick_no (A B cu cn : Nat) (s : Sb) (w : World) (h : Su w A B cu cn s) (hb : bz s = false) : Calls Tryz.prog 14 #[.pointer (some ⟨A, 0, none⟩)] w fun e w' => e = .returned (.slice none 0 0) ∧ w' = w := by
  go_enter Tryz.func14, Tryz.ntmps14
  go_wp2_with fail
  refine (how_any A B cu cn s _ h).mono ?_
  rintro e w1 ⟨rfl, rfl⟩
  rw [hb]
  go_wp2
  go_ret
  exact ⟨rfl, rfl⟩
theorem tick_yes {f : Int} (A B cu cn : Nat) (s : Sb) (w : World) (h : Su w A B cu cn s) (hn : Pn.Is s.n f) (ht0 : 0 ≤ s.t) (ht : s.t ≤ 100) (hb : bz s = true) : Calls Tryz.prog 14 #[.pointer (some ⟨A, 0, none⟩)] w fun e w' => ∃ D v, e = .returned v ∧ Out1 w' v D (tickS f s).t s.lt ∧ w.heap.size ≤ D ∧ D < w'.heap.size ∧ Su w' A B cu cn (tickS f s) ∧ Ot A B cu cn w w' := by
  have H : Hid (Su w A B cu cn s) := h
  have HN : Hid (Pn.Is s.n f) := hn
  have H1 : Hid (0 ≤ s.t ∧ s.t ≤ 100) := ⟨ht0, ht⟩
  obtain ⟨c0, c1, c2, c3, c4, c5, c6, c7⟩ := h.cells
  have g3 := h.fr 3
  clear h hn ht0 ht
  cases hg : s.g with
  | true =>
    rw [hg] at c4
    have e1 : tickS f s = { s with g := false } := by unfold tickS; rw [hg]; rfl
    rw [e1]
    clear e1
    go_enter Tryz.func14, Tryz.ntmps14
    go_wp2_with fail
    refine (how_any A B cu cn s _ H.out).mono ?_
    rintro e w1 ⟨rfl, rfl⟩
    rw [hb]
    go_wp2_with fail
    refine (send_any A B cu cn s _ H.out).mono ?_
    rintro e w2 ⟨D, v, rfl, h2⟩
    have H2 : Hid (Out1 w2 v D s.t s.lt ∧ w1.heap.size ≤ D ∧ D < w2.heap.size ∧ Su w2 A B cu cn { s with g := false } ∧ Ot A B cu cn w1 w2) := h2
    clear h2
    go_wp2
    go_ret
    exact ⟨D, v, rfl, H2.out⟩
  | false =>
    rw [hg] at c4
    obtain ⟨t', ht'⟩ : ∃ t, (if s.t = f then 0 else s.t + 1) = t := ⟨_, rfl⟩
    have e1 : tickS f s = { s with t := t', g := false } := by unfold tickS; rw [hg, ← ht']; rfl
    rw [e1]
    obtain ⟨X, hX⟩ : ∃ X, w.setCell ⟨A, 3, none⟩ (.int .i64 t') = X := ⟨_, rfl⟩
    have H3 : Hid (Su X A B cu cn { s with t := t' } ∧ Ot A B cu cn w X) := by
      rw [← hX]
      exact ⟨H.out.setT _, Ot.set 3 _⟩
    have HT' : Hid ((if s.t = f then 0 else s.t + 1) = t') := ht'
    clear e1 ht'
    go_enter Tryz.func14, Tryz.ntmps14
    go_wp2_with fail
    refine (how_any A B cu cn s _ H.out).mono ?_
    rintro e w1 ⟨rfl, rfl⟩
    rw [hb]
    go_wp2_with fail
    refine (next_any A B cu cn s _ H.out HN.out H1.out.2 H1.out.1).mono ?_
    rintro e w2 ⟨rfl, rfl⟩
    rw [HT'.out]
    go_wp2_with fail
    refine (send_any A B cu cn _ _ H3.out.1).mono ?_
    rintro e w4 ⟨D, v, rfl, h2, h3, h4, h5, h6⟩
    have H2 : Hid (Out1 w4 v D t' s.lt ∧ w2.heap.size ≤ D ∧ D < w4.heap.size ∧ Su w4 A B cu cn { s with t := t', g := false } ∧ Ot A B cu cn w2 w4) := ⟨h2, Nat.le_trans H3.out.2.size h3, h4, h5, H3.out.2.trans h6⟩
    clear h2 h3 h4 h5 h6
    go_wp2
    go_ret
    exact ⟨D, v, rfl, H2.out⟩
theorem follow_any {f : Int} (v : Int) (A B cu cn : Nat) (s : Sb) (w : World) (h : Su w A B cu cn s) (hn : Pn.Is s.n f) (hv0 : 0 ≤ v) (hv : v ≤ 1099511627776) : Calls Tryz.prog 34 #[.pointer (some ⟨A, 0, none⟩), .int .i64 v] w fun e w' => e = .returned (.tuple #[]) ∧ Su w' A B cu cn (folS f s v) ∧ Ot A B cu cn w w' := by
  have H : Hid (Su w A B cu cn s) := h
  have HN : Hid (Pn.Is s.n f) := hn
  have HV : Hid (0 ≤ v ∧ v ≤ 1099511627776) := ⟨hv0, hv⟩
  obtain ⟨c0, c1, c2, c3, c4, c5, c6, c7⟩ := h.cells
  clear h hn hv0 hv
  by_cases hl : v < s.v
  · have e1 : folS f s v = s := by unfold folS; rw [if_pos hl]
    rw [e1]
    go_enter Tryz.func34, Tryz.ntmps34
    go_wp2
    (try simp only [Exit.inBlock, Exit.then]); refine bodyPost_ret (results_none rfl _ _ _) rfl ?_
    exact ⟨rfl, H.out, Ot.refl _ _ _ _ _⟩
  · have e1 : folS f s v = { s with v := v, g := true, t := v % (f + 1) } := by unfold folS; rw [if_neg hl]
    rw [e1]
    have g2 := H.out.fr 2
    have g4 := (H.out.setV v).fr 4
    obtain ⟨X, hX⟩ : ∃ X, (w.setCell ⟨A, 2, none⟩ (.int .i64 v)).setCell ⟨A, 4, none⟩ (.bool true) = X := ⟨_, rfl⟩
    have H3 : Hid (Su X A B cu cn { s with v := v, g := true } ∧ Ot A B cu cn w X) := by
      rw [← hX]
      exact ⟨(H.out.setV v).setG true, (Ot.set 2 _).trans (Ot.set 4 _)⟩
    have H4 : Hid (Su (X.setCell ⟨A, 3, none⟩ (.int .i64 (v % (f + 1)))) A B cu cn { s with v := v, g := true, t := v % (f + 1) } ∧ Ot A B cu cn w (X.setCell ⟨A, 3, none⟩ (.int .i64 (v % (f + 1))))) := ⟨H3.out.1.setT _, H3.out.2.trans (Ot.set 3 _)⟩
    obtain ⟨y0, y1, y2, y3, y4, y5, y6, y7⟩ := H3.out.1.cells
    have g3 := H3.out.1.fr 3
    clear e1
    go_enter Tryz.func34, Tryz.ntmps34
    go_wp2_with fail
    refine (primary_yes v _ HN.out HV.out.1 HV.out.2).mono ?_
    rintro e w1 ⟨rfl, rfl⟩
    go_wp2
    go_end0
    exact ⟨rfl, H4.out⟩
end Go.Proofs.YtkdhbjmpjbdobaaGreatDoor
/- WUnp -/
namespace Go.Proofs.YtkdhbjmpjbdobaaGreatDoor
open Go.ChangeShapes Go.WideShapes Go.ChangeAt Go.RowKit Go.Deep Me
set_option maxRecDepth 100000
set_option maxRecDepth 100000 in
set_option maxRecDepth 100000 in
set_option maxHeartbeats 2000000 in
theorem read_no (s : ByteArray) (w : World) (hw : Calls Tryz.prog 76 #[.string s] (w.alloc (BM Me.zero NS NS)) (Wq (w.alloc (BM Me.zero NS NS)) s)) (hp : pWhole s = none) : Calls Tryz.prog 46 #[.string s] w fun e w' => e = .returned (.tuple #[VM Me.zero NS NS, .bool false]) ∧ Below w.heap.size w w' := by
  have HW : Hid (Calls Tryz.prog 76 #[.string s] (w.alloc (BM Me.zero NS NS)) (Wq (w.alloc (BM Me.zero NS NS)) s)) := hw
  have HP : Hid (pWhole s = none) := hp
  have hmf : ∀ (fn : Fn) (first cap : Array Value) (w : World), (Instr.makeFunc fn first cap).run Tryz.prog w = .ok (.func fn first cap) w := fun _ _ _ _ => rfl
  clear hw hp
  go_enter_defers Tryz.func46, Tryz.ntmps46
  go_wp2_with fail
  refine HW.out.mono ?_
  rintro e w1 ⟨hb, -, hn⟩
  obtain rfl := hn HP.out
  have HB : Hid (Below w.heap.size w w1) := bup (below_alloc _ _) hb
  have HR : Hid (w1.heap[w.heap.size]? = some (BM Me.zero NS NS)) := blk (heap_alloc_new _ _) hb
  clear hb hn
  go_wp2
  refine leaves_cons (f := 75) (args := #[]) (by simp) (by simp [go_sem]) ?_
  refine (catch_broken _).mono ?_
  rintro e u' w2 ⟨rfl, rfl, hb2⟩
  obtain ⟨c0, c1, c2, c3, c4, c5, c6, c7, c8, c9, c10, c11, c12, c13, c14⟩ := mm_of (blk HR.out hb2)
  have HB2 : Hid (Below w.heap.size w w2) := bup HB.out hb2
  simp [Leaves, settle, results, Tryz.results46, go_sem, c0, c1, c2, c3, c4, c5, c6, c7, c8, c9, c10, c11, c12, c13, c14]
  exact HB2.out
theorem At.grown_low {α : Type} {E : Enc α} {w w' : World} {v : Value} {l : List α} {R B : Nat} (h : At E (fun b => B ≤ b) w v l) (hR : R < B) (hg : w.grownBy w' (some R)) : At E (fun b => R ≤ b) w' v l :=
  (h.keep (T := fun b => R ≤ b) hg.size fun b hS hb => ⟨hg.block b hb (by simp; omega), by omega⟩)
set_option maxRecDepth 100000 in
set_option maxRecDepth 100000 in
set_option maxHeartbeats 4000000 in
theorem read_yes (s : ByteArray) (m : Mm) (w : World) (hw : Calls Tryz.prog 76 #[.string s] (w.alloc (BM Me.zero NS NS)) (Wq (w.alloc (BM Me.zero NS NS)) s)) (hp : pWhole s = some m) : Calls Tryz.prog 46 #[.string s] w fun e w' => (∃ u z, e = .returned (.tuple #[VM m u z, .bool true]) ∧ At EI (fun b => w.heap.size ≤ b) w' u m.lives ∧ At EM (fun b => w.heap.size ≤ b) w' z m.items) ∧ Below w.heap.size w w' := by
  have HW : Hid (Calls Tryz.prog 76 #[.string s] (w.alloc (BM Me.zero NS NS)) (Wq (w.alloc (BM Me.zero NS NS)) s)) := hw
  have HP : Hid (pWhole s = some m) := hp
  have hmf : ∀ (fn : Fn) (first cap : Array Value) (w : World), (Instr.makeFunc fn first cap).run Tryz.prog w = .ok (.func fn first cap) w := fun _ _ _ _ => rfl
  clear hw hp
  go_enter_defers Tryz.func46, Tryz.ntmps46
  go_wp2_with fail
  refine HW.out.mono ?_
  rintro e w1 ⟨hb, hy, -⟩
  obtain ⟨u, z, rfl, hu, hz⟩ := hy m HP.out
  obtain ⟨ao1, cap1, rfl, -, -⟩ := hu.open
  obtain ⟨ao2, cap2, rfl, -, -⟩ := hz.open
  generalize m.lives.length = n1 at *
  generalize m.items.length = n2 at *
  have HB : Hid (Below w.heap.size w w1) := bup (below_alloc _ _) hb
  have HU : Hid (At EI (fun b => (w.alloc (BM Me.zero NS NS)).heap.size ≤ b) w1 (.slice ao1 n1 cap1) m.lives ∧ At EM (fun b => (w.alloc (BM Me.zero NS NS)).heap.size ≤ b) w1 (.slice ao2 n2 cap2) m.items) := ⟨hu, hz⟩
  have hr : w1.heap[w.heap.size]? = some (BM Me.zero NS NS) := blk (heap_alloc_new _ _) hb
  obtain ⟨c0, c1, c2, c3, c4, c5, c6, c7, c8, c9, c10, c11, c12, c13, c14⟩ := mm_of hr
  have g0 := fr_at hr 0
  have g1 := fr_at hr 1
  have g2 := fr_at hr 2
  have g3 := fr_at hr 3
  have g4 := fr_at hr 4
  have g5 := fr_at hr 5
  have g6 := fr_at hr 6
  have g7 := fr_at hr 7
  have g8 := fr_at hr 8
  have g9 := fr_at hr 9
  have g10 := fr_at hr 10
  have g11 := fr_at hr 11
  have g12 := fr_at hr 12
  have g13 := fr_at hr 13
  have g14 := fr_at hr 14
  clear hb hy hu hz hr
  go_wp2
  refine leaves_cons (f := 75) (args := #[]) (by simp) (by simp [go_sem]) ?_
  refine (catch_idle _).mono ?_
  rintro e u' w2 ⟨rfl, rfl, rfl⟩
  have hend : ∀ w2, w1.grownBy w2 (some w.heap.size) → (At EI (fun b => w.heap.size ≤ b) w2 (.slice ao1 n1 cap1) m.lives ∧ At EM (fun b => w.heap.size ≤ b) w2 (.slice ao2 n2 cap2) m.items) ∧ Below w.heap.size w w2 := fun w2 hg => ⟨⟨At.grown_low HU.out.1 (by simp) hg, At.grown_low HU.out.2 (by simp) hg⟩, below_grown HB.out hg (Nat.le_refl _) HB.out.size⟩
  refine ⟨.tuple #[VM m (.slice ao1 n1 cap1) (.slice ao2 n2 cap2), .bool true], ?_, ⟨_, _, rfl, (hend _ (grown_trans (grown_trans (grown_trans (grown_trans (grown_trans (grown_trans (grown_trans (grown_trans (grown_trans (grown_trans (grown_trans (grown_trans (grown_trans (grown_trans (grown_set1 _ _ _ _) (grown_set1 _ _ _ _)) (grown_set1 _ _ _ _)) (grown_set1 _ _ _ _)) (grown_set1 _ _ _ _)) (grown_set1 _ _ _ _)) (grown_set1 _ _ _ _)) (grown_set1 _ _ _ _)) (grown_set1 _ _ _ _)) (grown_set1 _ _ _ _)) (grown_set1 _ _ _ _)) (grown_set1 _ _ _ _)) (grown_set1 _ _ _ _)) (grown_set1 _ _ _ _)) (grown_set1 _ _ _ _))).1⟩, (hend _ (grown_trans (grown_trans (grown_trans (grown_trans (grown_trans (grown_trans (grown_trans (grown_trans (grown_trans (grown_trans (grown_trans (grown_trans (grown_trans (grown_trans (grown_set1 _ _ _ _) (grown_set1 _ _ _ _)) (grown_set1 _ _ _ _)) (grown_set1 _ _ _ _)) (grown_set1 _ _ _ _)) (grown_set1 _ _ _ _)) (grown_set1 _ _ _ _)) (grown_set1 _ _ _ _)) (grown_set1 _ _ _ _)) (grown_set1 _ _ _ _)) (grown_set1 _ _ _ _)) (grown_set1 _ _ _ _)) (grown_set1 _ _ _ _)) (grown_set1 _ _ _ _)) (grown_set1 _ _ _ _))).2⟩
  rw [results_cell_tmp rfl]
  go_simp
end Go.Proofs.YtkdhbjmpjbdobaaGreatDoor
/- WUnpk -/
namespace Go.Proofs.YtkdhbjmpjbdobaaGreatDoor
open Go.ChangeShapes Go.WideShapes Go.ChangeAt Go.RowKit Go.Deep Me
set_option maxRecDepth 100000
theorem mat_zero (w : World) : MAt w Me.zero NS NS := ⟨.inl ⟨_, _, rfl, rfl⟩, .inl ⟨_, _, rfl, rfl⟩⟩
theorem whole_ok (s : ByteArray) (w : World) (hs : s.size ≤ 60000) (ht : Po.Tab w) : Calls Tryz.prog 76 #[.string s] w (Wq w s) := by
  have hl : (Po.Pl.ungOut s).data.toList.length = (Po.Pl.ungOut s).size := by simp
  have h1 := ung_le s
  have h2 := parse_len (Po.Pl.ungOut s).data.toList
  exact whole_any s w hs ht (fun x hx => parse_small _ _ _ x hx) (by omega) (by omega)
set_option maxRecDepth 100000 in
set_option maxRecDepth 100000 in
set_option maxHeartbeats 2000000 in
theorem unp_no (s : ByteArray) (w : World) (ht : Po.Tab w) (hn : unpE s ≠ 0) : Calls Tryz.prog 21 #[.string s] w fun e w' => e = .returned (.tuple #[VM Me.zero NS NS, .int .i64 (unpE s)]) ∧ Below w.heap.size w w' := by
  have hbx := heap_alloc_new w (BM Me.zero NS NS)
  have g0 := fr_at hbx 0
  have g1 := fr_at hbx 1
  have g2 := fr_at hbx 2
  have g3 := fr_at hbx 3
  have g4 := fr_at hbx 4
  have g5 := fr_at hbx 5
  have g6 := fr_at hbx 6
  have g7 := fr_at hbx 7
  have g8 := fr_at hbx 8
  have g9 := fr_at hbx 9
  have g10 := fr_at hbx 10
  have g11 := fr_at hbx 11
  have g12 := fr_at hbx 12
  have g13 := fr_at hbx 13
  have g14 := fr_at hbx 14
  obtain ⟨c0, c1, c2, c3, c4, c5, c6, c7, c8, c9, c10, c11, c12, c13, c14⟩ := mm_of hbx
  by_cases hs : 60000 < s.size
  · have HE : Hid (unpE s = 2) := by show _ = _; unfold unpE; rw [if_pos hs]
    have hs' : (60000 : Int) < (s.size : Int) := by omega
    clear hs hbx hn ht
    rw [HE.out]
    go_enter Tryz.func21, Tryz.ntmps21
    go_wp2
    (try simp only [Exit.inBlock, Exit.then])
    refine bodyPost_ret (v := .tuple #[VM Me.zero NS NS, .int .i64 2]) ?_ rfl ⟨rfl, below_alloc _ _⟩
    rw [results_cell_tmp rfl]
    go_simp
    exact ⟨rfl, rfl, rfl, rfl, rfl, rfl, rfl, rfl, rfl, rfl, rfl, rfl, rfl⟩
  · have hp : pWhole s = none := by
      unfold unpE at hn
      rw [if_neg hs] at hn
      cases hp : pWhole s with
      | none => rfl
      | some m => rw [hp] at hn; exact absurd rfl hn
    have HE : Hid (unpE s = 4) := by show _ = _; unfold unpE; rw [if_neg hs, hp]; rfl
    have hs' : ¬ (60000 : Int) < (s.size : Int) := by omega
    have HR : Hid (∀ x : World, Po.Tab x → Calls Tryz.prog 46 #[.string s] x fun e w' => e = .returned (.tuple #[VM Me.zero NS NS, .bool false]) ∧ Below x.heap.size x w') := fun x hx => read_no s x (whole_ok s _ (by omega) (tab_up hx (below_alloc _ _))) hp
    have HT : Hid (Po.Tab (w.alloc (BM Me.zero NS NS))) := tab_up ht (below_alloc _ _)
    have HX : Hid ((w.alloc (BM Me.zero NS NS)).heap[w.heap.size]? = some (BM Me.zero NS NS)) := hbx
    clear hs hbx hn ht hp
    rw [HE.out]
    go_enter Tryz.func21, Tryz.ntmps21
    go_wp2_with fail
    refine (HR.out _ HT.out).mono ?_
    rintro e w1 ⟨rfl, hb1⟩
    have hbx := blk (blk HX.out hb1) (below_alloc w1 (BM Me.zero NS NS))
    have g0 := fr_at hbx 0
    have g1 := fr_at hbx 1
    have g2 := fr_at hbx 2
    have g3 := fr_at hbx 3
    have g4 := fr_at hbx 4
    have g5 := fr_at hbx 5
    have g6 := fr_at hbx 6
    have g7 := fr_at hbx 7
    have g8 := fr_at hbx 8
    have g9 := fr_at hbx 9
    have g10 := fr_at hbx 10
    have g11 := fr_at hbx 11
    have g12 := fr_at hbx 12
    have g13 := fr_at hbx 13
    have g14 := fr_at hbx 14
    obtain ⟨c0, c1, c2, c3, c4, c5, c6, c7, c8, c9, c10, c11, c12, c13, c14⟩ := mm_of hbx
    have HG2 : Hid (∀ w2, (w1.alloc (BM Me.zero NS NS)).grownBy w2 (some w.heap.size) → Below w.heap.size w w2) := fun w2 hg => below_grown (bup (bup (below_alloc _ _) hb1) (below_alloc _ _)) hg (Nat.le_refl _) (bup (bup (below_alloc w (BM Me.zero NS NS)) hb1) (below_alloc _ _)).size
    clear hb1 hbx
    go_wp2
    (try simp only [Exit.inBlock, Exit.then])
    refine bodyPost_ret (v := .tuple #[VM Me.zero NS NS, .int .i64 4]) ?_ rfl ⟨rfl, HG2.out _ (grown_trans (grown_trans (grown_trans (grown_trans (grown_trans (grown_trans (grown_trans (grown_trans (grown_trans (grown_trans (grown_trans (grown_trans (grown_trans (grown_trans (grown_set1 _ _ _ _) (grown_set1 _ _ _ _)) (grown_set1 _ _ _ _)) (grown_set1 _ _ _ _)) (grown_set1 _ _ _ _)) (grown_set1 _ _ _ _)) (grown_set1 _ _ _ _)) (grown_set1 _ _ _ _)) (grown_set1 _ _ _ _)) (grown_set1 _ _ _ _)) (grown_set1 _ _ _ _)) (grown_set1 _ _ _ _)) (grown_set1 _ _ _ _)) (grown_set1 _ _ _ _)) (grown_set1 _ _ _ _))⟩
    rw [results_cell_tmp rfl]
    go_simp
    exact ⟨rfl, rfl, rfl, rfl, rfl, rfl, rfl, rfl, rfl, rfl, rfl, rfl, rfl⟩
set_option maxRecDepth 100000 in
set_option maxRecDepth 100000 in
set_option maxHeartbeats 2000000 in
theorem unp_yes (s : ByteArray) (m : Mm) (w : World) (ht : Po.Tab w) (hs : s.size ≤ 60000) (hp : pWhole s = some m) : Calls Tryz.prog 21 #[.string s] w fun e w' => (∃ u z, e = .returned (.tuple #[VM m u z, .int .i64 0]) ∧ MAt w' m u z) ∧ Below w.heap.size w w' := by
  have hs' : ¬ (60000 : Int) < (s.size : Int) := by omega
  have HR : Hid (∀ x : World, Po.Tab x → Calls Tryz.prog 46 #[.string s] x fun e w' => (∃ u z, e = .returned (.tuple #[VM m u z, .bool true]) ∧ At EI (fun b => x.heap.size ≤ b) w' u m.lives ∧ At EM (fun b => x.heap.size ≤ b) w' z m.items) ∧ Below x.heap.size x w') := fun x hx => read_yes s m x (whole_ok s _ hs (tab_up hx (below_alloc _ _))) hp
  have HT : Hid (Po.Tab (w.alloc (BM Me.zero NS NS))) := tab_up ht (below_alloc _ _)
  have HX : Hid ((w.alloc (BM Me.zero NS NS)).heap[w.heap.size]? = some (BM Me.zero NS NS)) := heap_alloc_new _ _
  clear hs ht hp
  go_enter Tryz.func21, Tryz.ntmps21
  go_wp2_with fail
  refine (HR.out _ HT.out).mono ?_
  rintro e w1 ⟨⟨u, z, rfl, hu, hz⟩, hb1⟩
  obtain ⟨ao1, cap1, rfl, -, -⟩ := hu.open
  obtain ⟨ao2, cap2, rfl, -, -⟩ := hz.open
  generalize m.lives.length = n1 at *
  generalize m.items.length = n2 at *
  have hbx := blk (blk HX.out hb1) (below_alloc w1 (BM m (.slice ao1 n1 cap1) (.slice ao2 n2 cap2)))
  have g0 := fr_at hbx 0
  have g1 := fr_at hbx 1
  have g2 := fr_at hbx 2
  have g3 := fr_at hbx 3
  have g4 := fr_at hbx 4
  have g5 := fr_at hbx 5
  have g6 := fr_at hbx 6
  have g7 := fr_at hbx 7
  have g8 := fr_at hbx 8
  have g9 := fr_at hbx 9
  have g10 := fr_at hbx 10
  have g11 := fr_at hbx 11
  have g12 := fr_at hbx 12
  have g13 := fr_at hbx 13
  have g14 := fr_at hbx 14
  obtain ⟨c0, c1, c2, c3, c4, c5, c6, c7, c8, c9, c10, c11, c12, c13, c14⟩ := mm_of hbx
  obtain ⟨dd0, dd1, dd2, dd3, dd4, dd5, dd6, dd7, dd8, dd9, dd10, dd11, dd12, dd13, dd14⟩ := mm_of (heap_alloc_new w1 (BM m (.slice ao1 n1 cap1) (.slice ao2 n2 cap2)))
  have hlt : w.heap.size < w1.heap.size := by have := hb1.size; simp at this; omega
  have hrl : ¬ w.heap.size = w1.heap.size := by omega
  have hrl2 : ¬ w1.heap.size = w.heap.size := by omega
  have HG2 : Hid (∀ w2, (w1.alloc (BM m (.slice ao1 n1 cap1) (.slice ao2 n2 cap2))).grownBy w2 (some w.heap.size) → MAt w2 m (.slice ao1 n1 cap1) (.slice ao2 n2 cap2) ∧ Below w.heap.size w w2) := fun w2 hg => ⟨⟨atw (At.grown_low (hu.up (below_alloc _ _)) (by simp) hg), atw (At.grown_low (hz.up (below_alloc _ _)) (by simp) hg)⟩, below_grown (bup (bup (below_alloc _ _) hb1) (below_alloc _ _)) hg (Nat.le_refl _) (bup (bup (below_alloc w (BM Me.zero NS NS)) hb1) (below_alloc _ _)).size⟩
  clear hb1 hbx hu hz hlt
  go_wp2
  (try simp only [Exit.inBlock, Exit.then])
  refine bodyPost_ret (v := .tuple #[VM m (.slice ao1 n1 cap1) (.slice ao2 n2 cap2), .int .i64 0]) ?_ rfl ⟨⟨_, _, rfl, (HG2.out _ (grown_trans (grown_trans (grown_trans (grown_trans (grown_trans (grown_trans (grown_trans (grown_trans (grown_trans (grown_trans (grown_trans (grown_trans (grown_trans (grown_trans (grown_set1 _ _ _ _) (grown_set1 _ _ _ _)) (grown_set1 _ _ _ _)) (grown_set1 _ _ _ _)) (grown_set1 _ _ _ _)) (grown_set1 _ _ _ _)) (grown_set1 _ _ _ _)) (grown_set1 _ _ _ _)) (grown_set1 _ _ _ _)) (grown_set1 _ _ _ _)) (grown_set1 _ _ _ _)) (grown_set1 _ _ _ _)) (grown_set1 _ _ _ _)) (grown_set1 _ _ _ _)) (grown_set1 _ _ _ _))).1⟩, (HG2.out _ (grown_trans (grown_trans (grown_trans (grown_trans (grown_trans (grown_trans (grown_trans (grown_trans (grown_trans (grown_trans (grown_trans (grown_trans (grown_trans (grown_trans (grown_set1 _ _ _ _) (grown_set1 _ _ _ _)) (grown_set1 _ _ _ _)) (grown_set1 _ _ _ _)) (grown_set1 _ _ _ _)) (grown_set1 _ _ _ _)) (grown_set1 _ _ _ _)) (grown_set1 _ _ _ _)) (grown_set1 _ _ _ _)) (grown_set1 _ _ _ _)) (grown_set1 _ _ _ _)) (grown_set1 _ _ _ _)) (grown_set1 _ _ _ _)) (grown_set1 _ _ _ _)) (grown_set1 _ _ _ _))).2⟩
  rw [results_cell_tmp rfl]
  go_simp
/-- memo.Unpack. -/
theorem munpack_any (s : ByteArray) (w : World) (ht : Po.Tab w) : Calls Tryz.prog 21 #[.string s] w fun e w' => (∃ u z, e = .returned (.tuple #[VM (unpM s) u z, .int .i64 (unpE s)]) ∧ MAt w' (unpM s) u z) ∧ Below w.heap.size w w' := by
  by_cases h : unpE s = 0
  · obtain ⟨hr, hp, hs⟩ := unp_ok h
    have hw : pWhole s = some (unpM s) := by
      have := whole_packed hr
      rwa [hp] at this
    rw [h]
    exact unp_yes s _ w ht hs hw
  · rw [unp_bad h]
    refine (unp_no s w ht h).mono ?_
    rintro e w' ⟨rfl, hb⟩
    exact ⟨⟨_, _, rfl, mat_zero _⟩, hb⟩
end Go.Proofs.YtkdhbjmpjbdobaaGreatDoor
/- SLet -/
namespace Go.Proofs.YtkdhbjmpjbdobaaGreatDoor
open Go.ChangeShapes Go.WideShapes Go.ChangeAt Go.RowKit Go.Deep
set_option maxRecDepth 100000
open Sk
namespace Sk
/-- A letter of a node that tells this client something. -/
def letB (s : Sb) (k : Int) (x : ByteArray) : Bool := decide (Me.unpE x = 0) && (decide (0 ≤ k ∧ k < s.n) && (decide ((Me.unpM x).k = 2) && decide ((Me.unpM x).cl = s.id)))
theorem letB_iff {s : Sb} {k : Int} {x : ByteArray} : letB s k x = true ↔ Me.unpE x = 0 ∧ (0 ≤ k ∧ k < s.n) ∧ (Me.unpM x).k = 2 ∧ (Me.unpM x).cl = s.id := by
  unfold letB
  simp only [Bool.and_eq_true, decide_eq_true_eq]
theorem howk (s : Sb) : ∃ k : Int, (if bz s then (2 : Int) else 1) = k ∧ (k == 0) = false ∧ k ≠ 0 := by
  cases bz s
  · exact ⟨1, rfl, rfl, by decide⟩
  · exact ⟨2, rfl, rfl, by decide⟩
end Sk
theorem letter_nil (k : Int) (x : ByteArray) (w : World) : Calls Tryz.prog 12 #[.pointer none, .int .i64 k, .string x] w fun e w' => e = .returned (.bool false) ∧ w' = w := by
  go_enter Tryz.func12, Tryz.ntmps12
  go_wp2_with fail
  refine (how_nil _).mono ?_
  rintro e w1 ⟨rfl, rfl⟩
  go_wp2
  go_ret
  exact ⟨rfl, rfl⟩
set_option maxRecDepth 100000 in
set_option maxHeartbeats 1000000 in
theorem letter_no {f : Int} (k : Int) (x : ByteArray) (A B cu cn : Nat) (s : Sb) (w : World) (h : Su w A B cu cn s) (hT : Po.Tab w) (hn : Pn.Is s.n f) (hl : letB s k x = false) : Calls Tryz.prog 12 #[.pointer (some ⟨A, 0, none⟩), .int .i64 k, .string x] w fun e w' => e = .returned (.bool false) ∧ Su w' A B cu cn s ∧ Ot A B cu cn w w' := by
  have H : Hid (Su w A B cu cn s) := h
  have HT : Hid (Po.Tab w) := hT
  have HN : Hid (Pn.Is s.n f) := hn
  obtain ⟨k1, hk1, hk2, hk3⟩ := howk s
  clear h hT hn
  by_cases h1 : Me.unpE x = 0
  · by_cases h2 : 0 ≤ k ∧ k < s.n
    · have h2' : decide (0 ≤ k ∧ k < s.n) = true := decide_eq_true h2
      by_cases h3 : (Me.unpM x).k = 2
      · have h4 : ¬ (Me.unpM x).cl = s.id := fun e => by rw [letB_iff.2 ⟨h1, h2, h3, e⟩] at hl; cases hl
        have H3 : Hid ((Me.unpM x).k = 2) := h3
        clear hl h2 h3
        go_enter Tryz.func12, Tryz.ntmps12
        go_wp2_with fail
        refine (how_any A B cu cn s _ H.out).mono ?_
        rintro e w0 ⟨rfl, rfl⟩
        rw [hk1]
        go_wp2_with fail
        refine (munpack_any x _ HT.out).mono ?_
        rintro e w1 ⟨⟨u, z, rfl, hm⟩, hb1⟩
        obtain ⟨p1, d1, rfl, -, -⟩ := hm.lives.open
        obtain ⟨p2, d2, rfl, -, -⟩ := hm.items.open
        clear hm
        generalize (Me.unpM x).lives.length = n1
        generalize (Me.unpM x).items.length = n2
        obtain ⟨X, hX⟩ : ∃ X, w1.alloc (BM (Me.unpM x) (.slice p1 n1 d1) (.slice p2 n2 d2)) = X := ⟨_, rfl⟩
        have HX : Hid (Su X A B cu cn s ∧ Below w0.heap.size w0 X) := by
          have : Below w0.heap.size w0 X := by rw [← hX]; exact bup hb1 (below_alloc _ _)
          exact ⟨H.out.up this, this⟩
        obtain ⟨q0, q1, q2, q3, q4, q5, q6, q7, q8, q9, q10, q11, q12, q13, q14⟩ := mm_of (heap_alloc_new w1 (BM (Me.unpM x) (.slice p1 n1 d1) (.slice p2 n2 d2)))
        rw [hX] at q0 q1 q2 q3 q4 q5 q6 q7 q8 q9 q10 q11 q12 q13 q14
        obtain ⟨c0, c1, c2, c3, c4, c5, c6, c7⟩ := HX.out.1.cells
        clear hb1
        rw [h1]
        go_wp2_with fail
        refine (isNode_any k A B cu cn s _ HX.out.1 HN.out).mono ?_
        rintro e w4 ⟨rfl, rfl⟩
        rw [h2']
        have h3 := H3.out
        go_wp2
        go_region
        all_goals
          go_wp2
          go_ret
          exact ⟨rfl, HX.out.1.up (Below.refl _ _).drew, Ot.of (HX.out.2.trans ((Below.refl _ _).drew))⟩
      · clear hl h2
        go_enter Tryz.func12, Tryz.ntmps12
        go_wp2_with fail
        refine (how_any A B cu cn s _ H.out).mono ?_
        rintro e w0 ⟨rfl, rfl⟩
        rw [hk1]
        go_wp2_with fail
        refine (munpack_any x _ HT.out).mono ?_
        rintro e w1 ⟨⟨u, z, rfl, hm⟩, hb1⟩
        obtain ⟨p1, d1, rfl, -, -⟩ := hm.lives.open
        obtain ⟨p2, d2, rfl, -, -⟩ := hm.items.open
        clear hm
        generalize (Me.unpM x).lives.length = n1
        generalize (Me.unpM x).items.length = n2
        obtain ⟨X, hX⟩ : ∃ X, w1.alloc (BM (Me.unpM x) (.slice p1 n1 d1) (.slice p2 n2 d2)) = X := ⟨_, rfl⟩
        have HX : Hid (Su X A B cu cn s ∧ Below w0.heap.size w0 X) := by
          have : Below w0.heap.size w0 X := by rw [← hX]; exact bup hb1 (below_alloc _ _)
          exact ⟨H.out.up this, this⟩
        obtain ⟨q0, q1, q2, q3, q4, q5, q6, q7, q8, q9, q10, q11, q12, q13, q14⟩ := mm_of (heap_alloc_new w1 (BM (Me.unpM x) (.slice p1 n1 d1) (.slice p2 n2 d2)))
        rw [hX] at q0 q1 q2 q3 q4 q5 q6 q7 q8 q9 q10 q11 q12 q13 q14
        obtain ⟨c0, c1, c2, c3, c4, c5, c6, c7⟩ := HX.out.1.cells
        clear hb1
        rw [h1]
        go_wp2_with fail
        refine (isNode_any k A B cu cn s _ HX.out.1 HN.out).mono ?_
        rintro e w4 ⟨rfl, rfl⟩
        rw [h2']
        go_wp2
        go_ret
        exact ⟨rfl, HX.out.1, Ot.of HX.out.2⟩
    · have h2' : decide (0 ≤ k ∧ k < s.n) = false := decide_eq_false h2
      clear hl h2
      go_enter Tryz.func12, Tryz.ntmps12
      go_wp2_with fail
      refine (how_any A B cu cn s _ H.out).mono ?_
      rintro e w0 ⟨rfl, rfl⟩
      rw [hk1]
      go_wp2_with fail
      refine (munpack_any x _ HT.out).mono ?_
      rintro e w1 ⟨⟨u, z, rfl, hm⟩, hb1⟩
      obtain ⟨p1, d1, rfl, -, -⟩ := hm.lives.open
      obtain ⟨p2, d2, rfl, -, -⟩ := hm.items.open
      clear hm
      generalize (Me.unpM x).lives.length = n1
      generalize (Me.unpM x).items.length = n2
      obtain ⟨X, hX⟩ : ∃ X, w1.alloc (BM (Me.unpM x) (.slice p1 n1 d1) (.slice p2 n2 d2)) = X := ⟨_, rfl⟩
      have HX : Hid (Su X A B cu cn s ∧ Below w0.heap.size w0 X) := by
        have : Below w0.heap.size w0 X := by rw [← hX]; exact bup hb1 (below_alloc _ _)
        exact ⟨H.out.up this, this⟩
      obtain ⟨q0, q1, q2, q3, q4, q5, q6, q7, q8, q9, q10, q11, q12, q13, q14⟩ := mm_of (heap_alloc_new w1 (BM (Me.unpM x) (.slice p1 n1 d1) (.slice p2 n2 d2)))
      rw [hX] at q0 q1 q2 q3 q4 q5 q6 q7 q8 q9 q10 q11 q12 q13 q14
      obtain ⟨c0, c1, c2, c3, c4, c5, c6, c7⟩ := HX.out.1.cells
      clear hb1
      rw [h1]
      go_wp2_with fail
      refine (isNode_any k A B cu cn s _ HX.out.1 HN.out).mono ?_
      rintro e w4 ⟨rfl, rfl⟩
      rw [h2']
      go_wp2
      go_ret
      exact ⟨rfl, HX.out.1, Ot.of HX.out.2⟩
  · clear hl
    go_enter Tryz.func12, Tryz.ntmps12
    go_wp2_with fail
    refine (how_any A B cu cn s _ H.out).mono ?_
    rintro e w0 ⟨rfl, rfl⟩
    rw [hk1]
    go_wp2_with fail
    refine (munpack_any x _ HT.out).mono ?_
    rintro e w1 ⟨⟨u, z, rfl, hm⟩, hb1⟩
    obtain ⟨p1, d1, rfl, -, -⟩ := hm.lives.open
    obtain ⟨p2, d2, rfl, -, -⟩ := hm.items.open
    clear hm
    generalize (Me.unpM x).lives.length = n1
    generalize (Me.unpM x).items.length = n2
    obtain ⟨X, hX⟩ : ∃ X, w1.alloc (BM (Me.unpM x) (.slice p1 n1 d1) (.slice p2 n2 d2)) = X := ⟨_, rfl⟩
    have HX : Hid (Su X A B cu cn s ∧ Below w0.heap.size w0 X) := by
      have : Below w0.heap.size w0 X := by rw [← hX]; exact bup hb1 (below_alloc _ _)
      exact ⟨H.out.up this, this⟩
    obtain ⟨q0, q1, q2, q3, q4, q5, q6, q7, q8, q9, q10, q11, q12, q13, q14⟩ := mm_of (heap_alloc_new w1 (BM (Me.unpM x) (.slice p1 n1 d1) (.slice p2 n2 d2)))
    rw [hX] at q0 q1 q2 q3 q4 q5 q6 q7 q8 q9 q10 q11 q12 q13 q14
    obtain ⟨c0, c1, c2, c3, c4, c5, c6, c7⟩ := HX.out.1.cells
    clear hb1
    go_wp2
    go_ret
    exact ⟨rfl, HX.out.1, Ot.of HX.out.2⟩
set_option maxRecDepth 100000 in
set_option maxHeartbeats 1000000 in
theorem letter_fol {f : Int} (k : Int) (x : ByteArray) (A B cu cn : Nat) (s : Sb) (w : World) (h : Su w A B cu cn s) (hT : Po.Tab w) (hn : Pn.Is s.n f) (hl : letB s k x = true) (ho : (Me.unpM x).o = 0) : Calls Tryz.prog 12 #[.pointer (some ⟨A, 0, none⟩), .int .i64 k, .string x] w fun e w' => e = .returned (.bool false) ∧ Su w' A B cu cn (folS f s (Me.unpM x).v) ∧ Ot A B cu cn w w' := by
  have H : Hid (Su w A B cu cn s) := h
  have HT : Hid (Po.Tab w) := hT
  have HN : Hid (Pn.Is s.n f) := hn
  obtain ⟨k1, hk1, hk2, hk3⟩ := howk s
  clear h hT hn
  obtain ⟨h1, h2, h3, h4⟩ := letB_iff.1 hl
  have HV : Hid (0 ≤ (Me.unpM x).v ∧ (Me.unpM x).v ≤ 1099511627776) := (unp_nums h1).1
  have h2' : decide (0 ≤ k ∧ k < s.n) = true := decide_eq_true h2
  have H3 : Hid ((Me.unpM x).k = 2 ∧ (Me.unpM x).cl = s.id ∧ (Me.unpM x).o = 0) := ⟨h3, h4, ho⟩
  clear hl h2 h3 h4 ho
  go_enter Tryz.func12, Tryz.ntmps12
  go_wp2_with fail
  refine (how_any A B cu cn s _ H.out).mono ?_
  rintro e w0 ⟨rfl, rfl⟩
  rw [hk1]
  go_wp2_with fail
  refine (munpack_any x _ HT.out).mono ?_
  rintro e w1 ⟨⟨u, z, rfl, hm⟩, hb1⟩
  obtain ⟨p1, d1, rfl, -, -⟩ := hm.lives.open
  obtain ⟨p2, d2, rfl, -, -⟩ := hm.items.open
  clear hm
  generalize (Me.unpM x).lives.length = n1
  generalize (Me.unpM x).items.length = n2
  obtain ⟨X, hX⟩ : ∃ X, w1.alloc (BM (Me.unpM x) (.slice p1 n1 d1) (.slice p2 n2 d2)) = X := ⟨_, rfl⟩
  have HX : Hid (Su X A B cu cn s ∧ Below w0.heap.size w0 X) := by
    have : Below w0.heap.size w0 X := by rw [← hX]; exact bup hb1 (below_alloc _ _)
    exact ⟨H.out.up this, this⟩
  obtain ⟨q0, q1, q2, q3, q4, q5, q6, q7, q8, q9, q10, q11, q12, q13, q14⟩ := mm_of (heap_alloc_new w1 (BM (Me.unpM x) (.slice p1 n1 d1) (.slice p2 n2 d2)))
  rw [hX] at q0 q1 q2 q3 q4 q5 q6 q7 q8 q9 q10 q11 q12 q13 q14
  obtain ⟨c0, c1, c2, c3, c4, c5, c6, c7⟩ := HX.out.1.cells
  clear hb1
  rw [h1]
  go_wp2_with fail
  refine (isNode_any k A B cu cn s _ HX.out.1 HN.out).mono ?_
  rintro e w4 ⟨rfl, rfl⟩
  rw [h2']
  obtain ⟨h3, h4, ho⟩ := H3.out
  go_wp2
  go_region
  all_goals
    have HD : Hid (Su w4.drew A B cu cn s ∧ Below w0.heap.size w0 w4.drew) := ⟨HX.out.1.up (Below.refl _ _).drew, HX.out.2.drew⟩
    go_wp2_with fail
    refine (follow_any (Me.unpM x).v A B cu cn s _ HD.out.1 HN.out HV.out.1 HV.out.2).mono ?_
    rintro e w6 ⟨rfl, h6, h7⟩
    have H6 : Hid (Su w6 A B cu cn (folS f s (Me.unpM x).v) ∧ Ot A B cu cn w0 w6) := ⟨h6, (Ot.of HD.out.2).trans h7⟩
    clear h6 h7
    go_wp2
    go_ret
    exact ⟨rfl, H6.out⟩
end Go.Proofs.YtkdhbjmpjbdobaaGreatDoor
