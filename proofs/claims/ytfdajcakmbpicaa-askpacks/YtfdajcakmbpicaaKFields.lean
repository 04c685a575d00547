/-
  ask.fields: a right call's fields, in a slice of the call's own.
-/
import Derived.Test.YtfdajcakmbpicaaKAdd
namespace Go.Proofs.Ytfdajcakmbpicaa
open Go.ChangeShapes Go.WideShapes Go.ChangeAt Go.RowKit Go.Deep
open Ak

/-- The call's box and the fields so far. -/
def Fr (A n0 b : Nat) (c : Cl) (l : List (Int × ByteArray)) (w0 : World) (v : Value) (w : World) : Prop := w.heap[A]? = some (BC c) ∧ St n0 b l w0 v w
theorem Fr.step {A n0 b : Nat} {c : Cl} {l : List (Int × ByteArray)} {w0 w w' : World} {v : Value} (h : Fr A n0 b c l w0 v w) (hb : Below w.heap.size w w') : Fr A n0 b c l w0 v w' := ⟨block_step h.1 hb, h.2.step hb⟩
theorem Fr.two {A n0 b : Nat} {c : Cl} {l : List (Int × ByteArray)} {w0 w w' : World} {v : Value} {i j : Nat} {x y : Value} (h : w.cell? ⟨A, i, none⟩ = some x ∧ w.cell? ⟨A, j, none⟩ = some y ∧ Fr A n0 b c l w0 v w) (hb : Below w.heap.size w w') :
    w'.cell? ⟨A, i, none⟩ = some x ∧ w'.cell? ⟨A, j, none⟩ = some y ∧ Fr A n0 b c l w0 v w' := ⟨cell_step h.1 hb, cell_step h.2.1 hb, h.2.2.step hb⟩
theorem Fr.drew {A n0 b : Nat} {c : Cl} {l : List (Int × ByteArray)} {w0 w : World} {v : Value} (h : Fr A n0 b c l w0 v w) : Fr A n0 b c l w0 v w.drew := ⟨h.1, ⟨h.2.box, h.2.row, h.2.below.drew, h.2.base, h.2.start⟩⟩
theorem neq_hand (no gen : Int) (w : World) : (binOp .neq 23 (VH no gen) (VH 0 0)).run Try.prog w = .ok (.bool (hnz no gen)) w := by
  unfold hnz
  cases h1 : (no == 0) <;> cases h2 : (gen == 0) <;> go_simp <;> simp [h1, h2]
theorem held_below {A i j : Nat} {x y : Value} {o : Obj} {w w' : World} (h : w.cell? ⟨A, i, none⟩ = some x ∧ w.cell? ⟨A, j, none⟩ = some y ∧ w.heap[A]? = some o) (hb : Below w.heap.size w w') :
    w'.cell? ⟨A, i, none⟩ = some x ∧ w'.cell? ⟨A, j, none⟩ = some y ∧ w'.heap[A]? = some o := ⟨cell_step h.1 hb, cell_step h.2.1 hb, block_step h.2.2 hb⟩
theorem held_others {A b i j : Nat} {x y : Value} {c : Cl} {w w' : World} (hne : A ≠ b) (h : w.cell? ⟨A, i, none⟩ = some x ∧ w.cell? ⟨A, j, none⟩ = some y ∧ w.heap[A]? = some (BC c)) (ho : Others b w w') :
    w'.cell? ⟨A, i, none⟩ = some x ∧ w'.cell? ⟨A, j, none⟩ = some y ∧ w'.heap[A]? = some (BC c) := by
  have h3 := ho A _ _ (by decide) hne h.2.2
  have e : w'.heap[A]? = w.heap[A]? := h3.trans h.2.2.symm
  exact ⟨by simp only [World.cell?, e]; exact h.1, by simp only [World.cell?, e]; exact h.2.1, h3⟩
theorem len_opt (l : List (Int × ByteArray)) (b : Bool) (y : Int × ByteArray) : (l ++ opt b y).length ≤ l.length + 1 := by
  unfold opt
  cases b <;> simp
theorem lens (c : Cl) : (f1 c).length ≤ 1000 ∧ (f2 c).length ≤ 1000 ∧ (f3 c).length ≤ 1000 ∧ (f4 c).length ≤ 1000 ∧ (f5 c).length ≤ 1000 ∧ (f6 c).length ≤ 1000 ∧ (f7 c).length ≤ 1000 := by
  have h1 : (f1 c).length = 1 := rfl
  have h2 : (f2 c).length ≤ (f1 c).length + 1 := len_opt _ _ _
  have h3 : (f3 c).length ≤ (f2 c).length + 1 := len_opt _ _ _
  have h4 : (f4 c).length ≤ (f3 c).length + 1 := len_opt _ _ _
  have h5 : (f5 c).length ≤ (f4 c).length + 1 := len_opt _ _ _
  have h6 : (f6 c).length ≤ (f5 c).length + 1 := len_opt _ _ _
  have h7 : (f7 c).length ≤ (f6 c).length + 1 := len_opt _ _ _
  omega
theorem start (n0 : Nat) (w0 w1 : World) (h : Below n0 w0 w1) (hn : n0 ≤ w0.heap.size) (tag : Int) (s : ByteArray) :
    St n0 (w1.heap.size + 1) [(tag, s)] w0 (.slice (some ⟨w1.heap.size, 0, none⟩) 1 1) ((w1.alloc (.cells #[.int .i64 tag, .string s] 57)).alloc (.cells #[.slice (some ⟨w1.heap.size, 0, none⟩) 1 1] 47)) := by
  have hs := h.size
  refine ⟨?_, ⟨rfl, .inr ⟨w1.heap.size, 1, #[.int .i64 tag, .string s], rfl, by omega, ?_, Nat.le_refl _, by decide, rfl, rfl⟩⟩, (h.alloc (by omega) _).alloc (by simp; omega) _, by omega, hn⟩
  · have := Boxed.new (w1.alloc (.cells #[.int .i64 tag, .string s] 57)) 47 (.slice (some ⟨w1.heap.size, 0, none⟩) 1 1)
    rw [World.size_alloc] at this
    exact this
  · exact (Below.heap_alloc _ _ _ (by simp)).trans (heap_alloc_new w1 _)
set_option maxHeartbeats 4000000 in
theorem fields_any (c : Cl) (w : World) (hr : rightP c) :
    Calls Try.prog 17 #[VC c] w fun e w' => ∃ v, e = .returned v ∧ FieldsAt w'.heap.size w' v (fields c) ∧ Below w.heap.size w w' := by
  have HK : Hid (c.k ≤ 9223372036854775807) := by have := hr.1; show c.k ≤ _; omega
  have HH : Hid ((c.no ≤ 9223372036854775807 ∧ c.gen ≤ 9223372036854775807) ∧ c.no2 ≤ 9223372036854775807 ∧ c.gen2 ≤ 9223372036854775807) := by
    obtain ⟨-, ⟨⟨-, h1⟩, -, h2⟩, ⟨⟨-, h3⟩, -, h4⟩, -⟩ := hr
    exact ⟨⟨by omega, by omega⟩, by omega, by omega⟩
  have HN : Hid (c.pl ≤ 9223372036854775807 ∧ c.n ≤ 9223372036854775807) := by
    obtain ⟨-, -, -, -, -, ⟨-, h1⟩, ⟨-, h2⟩, -⟩ := hr
    exact ⟨by omega, by omega⟩
  clear hr
  go_enter Try.func17, Try.ntmps17
  go_wp2_with fail
  refine (num_s c.k 1 _ HK.out).mono ?_
  rintro e w1 ⟨rfl, hb1⟩
  have HB0 : Hid (Below w.heap.size w w1) := ((Below.refl _ _).alloc (Nat.le_refl _) _).trans (hb1.mono (by simp))
  have HA0 : Hid (w1.heap[w.heap.size]? = some (BC c)) := block_step (heap_alloc_new w (BC c)) hb1
  have HS0 : Hid (St w.heap.size (w1.heap.size + 1) (f1 c) w _ _) := start w.heap.size w w1 HB0.out (Nat.le_refl _) 1 (Pl.numOut c.k 1)
  generalize Pl.numOut c.k 1 = n1 at *
  go_wp2_with fail
  have HF1 : Hid (Fr w.heap.size w.heap.size (w1.heap.size + 1) c (f1 c) w (.slice (some ⟨w1.heap.size, 0, none⟩) 1 1) ((w1.alloc (.cells #[.int .i64 1, .string n1] 57)).alloc (.cells #[.slice (some ⟨w1.heap.size, 0, none⟩) 1 1] 47))) :=
    ⟨(Below.heap_alloc _ _ _ (by have := block_lt HA0.out; simp; omega)).trans ((Below.heap_alloc _ _ _ (block_lt HA0.out)).trans HA0.out), HS0.out⟩
  have HNE : Hid (w.heap.size ≠ w1.heap.size + 1) := by have := block_lt HA0.out; show _ ≠ _; omega
  have hbx : w.heap.size < w1.heap.size := block_lt HA0.out
  generalize (w1.alloc (.cells #[.int .i64 1, .string n1] 57)).alloc (.cells #[.slice (some ⟨w1.heap.size, 0, none⟩) 1 1] 47) = W at *
  generalize w1.heap.size + 1 = b at *
  generalize Value.slice (some ⟨w1.heap.size, 0, none⟩) 1 1 = v1 at *
  obtain ⟨A, hA⟩ : ∃ A, w.heap.size = A := ⟨_, rfl⟩
  rw [hA] at HF1 HNE ⊢
  have HAA : Hid (w.heap.size = A) := hA
  clear hb1 HB0 HA0 HS0 hbx hA
  have HL : Hid ((f1 c).length ≤ 1000) := by show (f1 c).length ≤ 1000; simp [f1]
  have HC1 : Hid (W.cell? ⟨A, 1, none⟩ = some (.int .i64 c.no) ∧ W.cell? ⟨A, 2, none⟩ = some (.int .i64 c.gen) ∧ W.heap[A]? = some (BC c)) := ⟨(ten_of HF1.out.1).2.1, (ten_of HF1.out.1).2.2.1, HF1.out.1⟩
  have hng1 : ∀ w', (binOp .neq 23 (VH c.no c.gen) (VH 0 0)).run Try.prog w' = .ok (.bool (hnz c.no c.gen)) w' := neq_hand _ _
  go_region_held3 (fun w' => w'.cell? ⟨A, 1, none⟩ = some (.int .i64 c.no) ∧ w'.cell? ⟨A, 2, none⟩ = some (.int .i64 c.gen) ∧ w'.heap[A]? = some (BC c)) (first | exact HC1.out | assumption | exact held_below (by assumption) (by assumption) | exact held_others HNE.out (by assumption) (by assumption)) (first
    | (go_at_call 32; refine (packHandle_any c.no c.gen _ HH.out.1.1 HH.out.1.2).mono ?_; rintro e x1 ⟨rfl, hb1⟩)
    | (go_at_call 31; refine (add_any (hnz c.no c.gen) 2 (hbytes c.no c.gen) A b (f1 c) w v1 _ (HF1.out.drew.step hb1).2 (lens c).1).mono ?_; rintro e w2 ⟨rfl, v2, hst2, ho2⟩))
  have HF2 : Hid (Fr A A b c (f2 c) w v2 w2) := ⟨ho2 A _ _ (by decide) HNE.out (HF1.out.drew.step hb1).1, hst2⟩
  clear hst2 ho2 hb1 HC1 HF1 hng1
  go_wp2_with fail
  have HC2 : Hid (w2.cell? ⟨A, 3, none⟩ = some (.int .i64 c.no2) ∧ w2.cell? ⟨A, 4, none⟩ = some (.int .i64 c.gen2) ∧ w2.heap[A]? = some (BC c)) := ⟨(ten_of HF2.out.1).2.2.2.1, (ten_of HF2.out.1).2.2.2.2.1, HF2.out.1⟩
  have hng2 : ∀ w', (binOp .neq 23 (VH c.no2 c.gen2) (VH 0 0)).run Try.prog w' = .ok (.bool (hnz c.no2 c.gen2)) w' := neq_hand _ _
  go_region_held3 (fun w' => w'.cell? ⟨A, 3, none⟩ = some (.int .i64 c.no2) ∧ w'.cell? ⟨A, 4, none⟩ = some (.int .i64 c.gen2) ∧ w'.heap[A]? = some (BC c)) (first | exact HC2.out | assumption | exact held_below (by assumption) (by assumption) | exact held_others HNE.out (by assumption) (by assumption)) (first
    | (go_at_call 32; refine (packHandle_any c.no2 c.gen2 _ HH.out.2.1 HH.out.2.2).mono ?_; rintro e x2 ⟨rfl, hb2⟩)
    | (go_at_call 31; refine (add_any (hnz c.no2 c.gen2) 3 (hbytes c.no2 c.gen2) A b (f2 c) w v2 _ (HF2.out.drew.step hb2).2 (lens c).2.1).mono ?_; rintro e w3 ⟨rfl, v3, hst3, ho3⟩))
  have HF3 : Hid (Fr A A b c (f3 c) w v3 w3) := ⟨ho3 A _ _ (by decide) HNE.out (HF2.out.drew.step hb2).1, hst3⟩
  clear hst3 ho3 hb2 HC2 HF2 hng2
  have c3 : w3.cell? ⟨A, 5, none⟩ = some (.string c.nm) := (ten_of HF3.out.1).2.2.2.2.2.1
  go_wp2_with fail
  refine (add_any (!c.nm.toList.isEmpty) 4 c.nm A b (f3 c) w v3 _ HF3.out.2 (lens c).2.2.1).mono ?_
  rintro e w4 ⟨rfl, v4, hst4, ho4⟩
  have HF4 : Hid (Fr A A b c (f4 c) w v4 w4) := ⟨ho4 A _ _ (by decide) HNE.out HF3.out.1, hst4⟩
  clear hst4 ho4 c3 HF3
  have c4 : w4.cell? ⟨A, 6, none⟩ = some (.string c.nm2) := (ten_of HF4.out.1).2.2.2.2.2.2.1
  go_wp2_with fail
  refine (add_any (!c.nm2.toList.isEmpty) 5 c.nm2 A b (f4 c) w v4 _ HF4.out.2 (lens c).2.2.2.1).mono ?_
  rintro e w5 ⟨rfl, v5, hst5, ho5⟩
  have HF5 : Hid (Fr A A b c (f5 c) w v5 w5) := ⟨ho5 A _ _ (by decide) HNE.out HF4.out.1, hst5⟩
  clear hst5 ho5 c4 HF4
  go_wp2_with fail
  have HC5 : Hid (w5.cell? ⟨A, 7, none⟩ = some (.int .i64 c.pl) ∧ w5.cell? ⟨A, 7, none⟩ = some (.int .i64 c.pl) ∧ w5.heap[A]? = some (BC c)) := ⟨(ten_of HF5.out.1).2.2.2.2.2.2.2.1, (ten_of HF5.out.1).2.2.2.2.2.2.2.1, HF5.out.1⟩
  go_region_held3 (fun w' => w'.cell? ⟨A, 7, none⟩ = some (.int .i64 c.pl) ∧ w'.cell? ⟨A, 7, none⟩ = some (.int .i64 c.pl) ∧ w'.heap[A]? = some (BC c)) (first | exact HC5.out | assumption | exact held_below (by assumption) (by assumption) | exact held_others HNE.out (by assumption) (by assumption)) (first
    | (go_at_call 30; refine (num_s c.pl 4 _ HN.out.1).mono ?_; rintro e x5 ⟨rfl, hb5⟩)
    | (go_at_call 31; refine (add_any (c.pl != 0) 6 (Pl.numOut c.pl 4) A b (f5 c) w v5 _ (HF5.out.drew.step hb5).2 (lens c).2.2.2.2.1).mono ?_; rintro e w6 ⟨rfl, v6, hst6, ho6⟩))
  have HF6 : Hid (Fr A A b c (f6 c) w v6 w6) := ⟨ho6 A _ _ (by decide) HNE.out (HF5.out.drew.step hb5).1, hst6⟩
  clear hst6 ho6 hb5 HC5 HF5
  go_wp2_with fail
  have HC6 : Hid (w6.cell? ⟨A, 8, none⟩ = some (.int .i64 c.n) ∧ w6.cell? ⟨A, 8, none⟩ = some (.int .i64 c.n) ∧ w6.heap[A]? = some (BC c)) := ⟨(ten_of HF6.out.1).2.2.2.2.2.2.2.2.1, (ten_of HF6.out.1).2.2.2.2.2.2.2.2.1, HF6.out.1⟩
  go_region_held3 (fun w' => w'.cell? ⟨A, 8, none⟩ = some (.int .i64 c.n) ∧ w'.cell? ⟨A, 8, none⟩ = some (.int .i64 c.n) ∧ w'.heap[A]? = some (BC c)) (first | exact HC6.out | assumption | exact held_below (by assumption) (by assumption) | exact held_others HNE.out (by assumption) (by assumption)) (first
    | (go_at_call 30; refine (num_s c.n 2 _ HN.out.2).mono ?_; rintro e x6 ⟨rfl, hb6⟩)
    | (go_at_call 31; refine (add_any (c.n != 0) 7 (Pl.numOut c.n 2) A b (f6 c) w v6 _ (HF6.out.drew.step hb6).2 (lens c).2.2.2.2.2.1).mono ?_; rintro e w7 ⟨rfl, v7, hst7, ho7⟩))
  have HF7 : Hid (Fr A A b c (f7 c) w v7 w7) := ⟨ho7 A _ _ (by decide) HNE.out (HF6.out.drew.step hb6).1, hst7⟩
  clear hst7 ho7 hb6 HC6 HF6
  have c7 : w7.cell? ⟨A, 9, none⟩ = some (.string c.data) := (ten_of HF7.out.1).2.2.2.2.2.2.2.2.2
  go_wp2_with fail
  refine (add_any (!c.data.toList.isEmpty) 8 c.data A b (f7 c) w v7 _ HF7.out.2 (lens c).2.2.2.2.2.2).mono ?_
  rintro e w8 ⟨rfl, v8, hst8, ho8⟩
  have HF8 : Hid (Fr A A b c (fields c) w v8 w8) := ⟨ho8 A _ _ (by decide) HNE.out HF7.out.1, hst8⟩
  clear hst8 ho8 c7 HF7
  have c8 := HF8.out.2.box.cell
  go_wp2
  go_ret
  refine ⟨_, rfl, HF8.out.2.fields, ?_⟩
  rw [HAA.out]
  exact HF8.out.2.below
end Go.Proofs.Ytfdajcakmbpicaa
