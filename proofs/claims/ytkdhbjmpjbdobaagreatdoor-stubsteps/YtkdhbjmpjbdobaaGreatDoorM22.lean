/-
  The texts RFields, RPack, RUnpack, SSet, as one.
-/
import Derived.Test.YtkdhbjmpjbdobaaGreatDoorM21
/- RFields -/
namespace Go.Proofs.YtkdhbjmpjbdobaaGreatDoor.Ns
open Go.ChangeShapes Go.WideShapes Go.ChangeAt Go.RowKit Go.Deep
set_option maxRecDepth 100000
open Ak

/-- The reply's box and the fields so far. -/
def Fr (A n0 b : Nat) (r : Rep) (u : Value) (l : List (Int × ByteArray)) (w0 : World) (v : Value) (w : World) : Prop := w.heap[A]? = some (BR r u) ∧ St n0 b l w0 v w
theorem Fr.step {A n0 b : Nat} {r : Rep} {u : Value} {l : List (Int × ByteArray)} {w0 w w' : World} {v : Value} (h : Fr A n0 b r u l w0 v w) (hb : Below w.heap.size w w') : Fr A n0 b r u l w0 v w' := ⟨block_step h.1 hb, h.2.step hb⟩
theorem Fr.drew {A n0 b : Nat} {r : Rep} {u : Value} {l : List (Int × ByteArray)} {w0 w : World} {v : Value} (h : Fr A n0 b r u l w0 v w) : Fr A n0 b r u l w0 v w.drew := ⟨h.1, ⟨h.2.box, h.2.row, h.2.below.drew, h.2.base, h.2.start⟩⟩
theorem neq_hand (no gen : Int) (w : World) : (binOp .neq 32 (VH no gen) (VH 0 0)).run Tryz.prog w = .ok (.bool (hnz no gen)) w := by
  unfold hnz
  cases h1 : (no == 0) <;> cases h2 : (gen == 0) <;> go_simp <;> simp [h1, h2]
theorem neq_attr (k l s t : Int) (w : World) : (binOp .neq 45 (VA k l s t) (VA 0 0 0 0)).run Tryz.prog w = .ok (.bool (Re.anz k l s t)) w := by
  unfold Re.anz
  cases h1 : (k == 0) <;> cases h2 : (l == 0) <;> cases h3 : (s == 0) <;> cases h4 : (t == 0) <;> go_simp <;> simp [h1, h2, h3, h4]
/-- What a drawn region holds on to: some cells of the box, and the box. -/
def Held (A : Nat) (cs : List (Nat × Value)) (o : Obj) (w : World) : Prop := (∀ x ∈ cs, w.cell? ⟨A, x.1, none⟩ = some x.2) ∧ w.heap[A]? = some o
theorem held2_below {A i j : Nat} {x y : Value} {o : Obj} {w w' : World} (h : w.cell? ⟨A, i, none⟩ = some x ∧ w.cell? ⟨A, j, none⟩ = some y ∧ w.heap[A]? = some o) (hb : Below w.heap.size w w') :
    w'.cell? ⟨A, i, none⟩ = some x ∧ w'.cell? ⟨A, j, none⟩ = some y ∧ w'.heap[A]? = some o := ⟨cell_step h.1 hb, cell_step h.2.1 hb, block_step h.2.2 hb⟩
theorem held2_others {A b i j : Nat} {x y : Value} {r : Rep} {u : Value} {w w' : World} (hne : A ≠ b) (h : w.cell? ⟨A, i, none⟩ = some x ∧ w.cell? ⟨A, j, none⟩ = some y ∧ w.heap[A]? = some (BR r u)) (ho : Others b w w') :
    w'.cell? ⟨A, i, none⟩ = some x ∧ w'.cell? ⟨A, j, none⟩ = some y ∧ w'.heap[A]? = some (BR r u) := by
  have h3 := ho A _ _ (by decide) hne h.2.2
  have e : w'.heap[A]? = w.heap[A]? := h3.trans h.2.2.symm
  exact ⟨by simp only [World.cell?, e]; exact h.1, by simp only [World.cell?, e]; exact h.2.1, h3⟩
theorem held4_below {A : Nat} {x0 x1 x2 x3 : Value} {o : Obj} {w w' : World} (h : w.cell? ⟨A, 3, none⟩ = some x0 ∧ w.cell? ⟨A, 4, none⟩ = some x1 ∧ w.cell? ⟨A, 5, none⟩ = some x2 ∧ w.cell? ⟨A, 6, none⟩ = some x3 ∧ w.heap[A]? = some o) (hb : Below w.heap.size w w') :
    w'.cell? ⟨A, 3, none⟩ = some x0 ∧ w'.cell? ⟨A, 4, none⟩ = some x1 ∧ w'.cell? ⟨A, 5, none⟩ = some x2 ∧ w'.cell? ⟨A, 6, none⟩ = some x3 ∧ w'.heap[A]? = some o := ⟨cell_step h.1 hb, cell_step h.2.1 hb, cell_step h.2.2.1 hb, cell_step h.2.2.2.1 hb, block_step h.2.2.2.2 hb⟩
theorem held4_others {A b : Nat} {x0 x1 x2 x3 : Value} {r : Rep} {u : Value} {w w' : World} (hne : A ≠ b) (h : w.cell? ⟨A, 3, none⟩ = some x0 ∧ w.cell? ⟨A, 4, none⟩ = some x1 ∧ w.cell? ⟨A, 5, none⟩ = some x2 ∧ w.cell? ⟨A, 6, none⟩ = some x3 ∧ w.heap[A]? = some (BR r u)) (ho : Others b w w') :
    w'.cell? ⟨A, 3, none⟩ = some x0 ∧ w'.cell? ⟨A, 4, none⟩ = some x1 ∧ w'.cell? ⟨A, 5, none⟩ = some x2 ∧ w'.cell? ⟨A, 6, none⟩ = some x3 ∧ w'.heap[A]? = some (BR r u) := by
  have h3 := ho A _ _ (by decide) hne h.2.2.2.2
  have e : w'.heap[A]? = w.heap[A]? := h3.trans h.2.2.2.2.symm
  exact ⟨by simp only [World.cell?, e]; exact h.1, by simp only [World.cell?, e]; exact h.2.1, by simp only [World.cell?, e]; exact h.2.2.1, by simp only [World.cell?, e]; exact h.2.2.2.1, h3⟩
theorem len_opt (l : List (Int × ByteArray)) (b : Bool) (y : Int × ByteArray) : (l ++ opt b y).length ≤ l.length + 1 := by
  unfold opt
  cases b <;> simp
theorem lens (r : Rep) : ([] : List (Int × ByteArray)).length ≤ 1000 ∧ (Re.f1 r).length ≤ 1000 ∧ (Re.f2 r).length ≤ 1000 ∧ (Re.f3 r).length ≤ 1000 ∧ (Re.f4 r).length ≤ 4 := by
  have h1 : (Re.f1 r).length ≤ 0 + 1 := len_opt [] _ _
  have h2 : (Re.f2 r).length ≤ (Re.f1 r).length + 1 := len_opt _ _ _
  have h3 : (Re.f3 r).length ≤ (Re.f2 r).length + 1 := len_opt _ _ _
  have h4 : (Re.f4 r).length ≤ (Re.f3 r).length + 1 := len_opt _ _ _
  simp only [List.length_nil]
  omega
theorem ef_take {l : List Ent} {k : Nat} {x : Ent} (h : l[k]? = some x) : Re.ef (l.take (k + 1)) = Re.ef (l.take k) ++ opt true (5, Re.ebytes x) := by
  obtain ⟨hk, rfl⟩ := List.getElem?_eq_some_iff.1 h
  rw [List.take_succ_eq_append_getElem hk]
  unfold Re.ef opt
  rw [List.map_append]
  rfl
set_option maxRecDepth 100000 in
set_option maxHeartbeats 8000000 in
theorem fields_any (r : Rep) (u : Value) (w : World) (hr : Re.rightP r) (hv : AtW EE w u r.ents) :
    Calls Tryz.prog 118 #[VR r u] w fun e w' => ∃ v, e = .returned v ∧ FieldsAt w'.heap.size w' v (Re.fields r) ∧ Below w.heap.size w w' := by
  have HH : Hid (r.no ≤ 9223372036854775807 ∧ r.gen ≤ 9223372036854775807) := by
    obtain ⟨-, ⟨⟨-, h1⟩, -, h2⟩, -⟩ := hr
    exact ⟨by omega, by omega⟩
  have HN : Hid (r.e ≤ 9223372036854775807 ∧ r.n ≤ 9223372036854775807) := by
    obtain ⟨⟨-, h1⟩, -, -, -, -, -, h2⟩ := hr
    exact ⟨by omega, by omega⟩
  have HT : Hid ((r.s ≤ 9223372036854775807 ∧ r.t ≤ 9223372036854775807) ∧ r.k ≤ 9223372036854775807 ∧ r.l ≤ 9223372036854775807) := by
    have h := At.right_iff.1 hr.2.2.1
    unfold At.rightP at h
    exact ⟨⟨by omega, by omega⟩, by omega, by omega⟩
  have HM : Hid (r.ents.length ≤ 64 ∧ ∀ x ∈ r.ents, (1 ≤ x.2.1 ∧ x.2.1 ≤ 1099511627776) ∧ Nm.ok x.1 ∧ hokP x.2.2.1 x.2.2.2) := ⟨hr.2.2.2.2.1.1, Re.entsP_mem hr.2.2.2.2.1.2 (Int.le_refl 0)⟩
  have hv0 := hv
  obtain ⟨ao, cap, rfl, hm, hx⟩ := hv0.open
  clear hv0 hv hm
  obtain ⟨z, hz⟩ : ∃ z, r.ents.length = z := ⟨_, rfl⟩
  have hz64 : z ≤ 64 := by rw [← hz]; exact HM.out.1
  rw [hz] at ⊢
  have HZ : Hid (r.ents.length = z) := hz
  have HX : Hid (∀ i x, r.ents[i]? = some x → ∃ b off, ao = some ⟨b, off, none⟩ ∧ True ∧ b < w.heap.size ∧ ∀ k u, (EE.cells x)[k]? = some u → w.cell? ⟨b, off + (i * EE.sz + k), none⟩ = some u) := hx
  clear hr hz hx
  have HF0 : Hid (Fr w.heap.size w.heap.size (w.heap.size + 1) r (.slice ao z cap) [] w (.slice none 0 0) ((w.alloc (BR r (.slice ao z cap))).alloc (.cells #[.slice none 0 0] 117))) := by
    refine ⟨(Below.heap_alloc _ _ _ (by simp)).trans (heap_alloc_new w _), ?_, World.ownsRow_nil _ _ _ _, ((Below.refl _ _).alloc (Nat.le_refl _) _).alloc (by simp) _, by omega, Nat.le_refl _⟩
    have := Boxed.new (w.alloc (BR r (.slice ao z cap))) 117 (.slice none 0 0)
    rw [World.size_alloc] at this
    exact this
  have HNE : Hid (w.heap.size ≠ w.heap.size + 1) := by show _ ≠ _; omega
  go_enter Tryz.func118, Tryz.ntmps118
  go_wp2_with fail
  generalize (w.alloc (BR r (.slice ao z cap))).alloc (.cells #[.slice none 0 0] 117) = W at *
  generalize w.heap.size + 1 = b at *
  obtain ⟨A, hA⟩ : ∃ A, w.heap.size = A := ⟨_, rfl⟩
  rw [hA] at HF0 HNE HX ⊢
  have HAA : Hid (w.heap.size = A) := hA
  clear hA
  have HC0 : Hid (W.cell? ⟨A, 0, none⟩ = some (.int .i64 r.e) ∧ W.cell? ⟨A, 0, none⟩ = some (.int .i64 r.e) ∧ W.heap[A]? = some (BR r (.slice ao z cap))) := ⟨(ten_of HF0.out.1).1, (ten_of HF0.out.1).1, HF0.out.1⟩
  go_region_held3 (fun w' => w'.cell? ⟨A, 0, none⟩ = some (.int .i64 r.e) ∧ w'.cell? ⟨A, 0, none⟩ = some (.int .i64 r.e) ∧ w'.heap[A]? = some (BR r (.slice ao z cap))) (first | exact HC0.out | assumption | exact held2_below (by assumption) (by assumption) | exact held2_others HNE.out (by assumption) (by assumption)) (first
    | (go_at_call 146; refine (num_s r.e 2 _ HN.out.1).mono ?_; rintro e x0 ⟨rfl, hb0⟩)
    | (go_at_call 145; refine (add_any (r.e != 0) 1 (Pl.numOut r.e 2) A b ([]) w (.slice none 0 0) _ (HF0.out.drew.step hb0).2 (lens r).1).mono ?_; rintro e w1 ⟨rfl, v1, hst1, ho1⟩))
  have HF1 : Hid (Fr A A b r (.slice ao z cap) (Re.f1 r) w v1 w1) := ⟨ho1 A _ _ (by decide) HNE.out (HF0.out.drew.step hb0).1, hst1⟩
  clear hst1 ho1 hb0 HC0 HF0
  go_wp2_with fail
  have HC1 : Hid (w1.cell? ⟨A, 1, none⟩ = some (.int .i64 r.no) ∧ w1.cell? ⟨A, 2, none⟩ = some (.int .i64 r.gen) ∧ w1.heap[A]? = some (BR r (.slice ao z cap))) := ⟨(ten_of HF1.out.1).2.1, (ten_of HF1.out.1).2.2.1, HF1.out.1⟩
  have hng1 : ∀ w', (binOp .neq 32 (VH r.no r.gen) (VH 0 0)).run Tryz.prog w' = .ok (.bool (hnz r.no r.gen)) w' := neq_hand _ _
  go_region_held3 (fun w' => w'.cell? ⟨A, 1, none⟩ = some (.int .i64 r.no) ∧ w'.cell? ⟨A, 2, none⟩ = some (.int .i64 r.gen) ∧ w'.heap[A]? = some (BR r (.slice ao z cap))) (first | exact HC1.out | assumption | exact held2_below (by assumption) (by assumption) | exact held2_others HNE.out (by assumption) (by assumption)) (first
    | (go_at_call 147; refine (packHandle_any r.no r.gen _ HH.out.1 HH.out.2).mono ?_; rintro e x1 ⟨rfl, hb1⟩)
    | (go_at_call 145; refine (add_any (hnz r.no r.gen) 2 (hbytes r.no r.gen) A b (Re.f1 r) w v1 _ (HF1.out.drew.step hb1).2 (lens r).2.1).mono ?_; rintro e w2 ⟨rfl, v2, hst2, ho2⟩))
  have HF2 : Hid (Fr A A b r (.slice ao z cap) (Re.f2 r) w v2 w2) := ⟨ho2 A _ _ (by decide) HNE.out (HF1.out.drew.step hb1).1, hst2⟩
  clear hst2 ho2 hb1 HC1 HF1
  clear hng1
  go_wp2_with fail
  have HC2 : Hid (w2.cell? ⟨A, 3, none⟩ = some (.int .i64 r.k) ∧ w2.cell? ⟨A, 4, none⟩ = some (.int .i64 r.l) ∧ w2.cell? ⟨A, 5, none⟩ = some (.int .i64 r.s) ∧ w2.cell? ⟨A, 6, none⟩ = some (.int .i64 r.t) ∧ w2.heap[A]? = some (BR r (.slice ao z cap))) := ⟨(ten_of HF2.out.1).2.2.2.1, (ten_of HF2.out.1).2.2.2.2.1, (ten_of HF2.out.1).2.2.2.2.2.1, (ten_of HF2.out.1).2.2.2.2.2.2.1, HF2.out.1⟩
  have hng2 : ∀ w', (binOp .neq 45 (VA r.k r.l r.s r.t) (VA 0 0 0 0)).run Tryz.prog w' = .ok (.bool (Re.anz r.k r.l r.s r.t)) w' := neq_attr _ _ _ _
  go_region_held3 (fun w' => w'.cell? ⟨A, 3, none⟩ = some (.int .i64 r.k) ∧ w'.cell? ⟨A, 4, none⟩ = some (.int .i64 r.l) ∧ w'.cell? ⟨A, 5, none⟩ = some (.int .i64 r.s) ∧ w'.cell? ⟨A, 6, none⟩ = some (.int .i64 r.t) ∧ w'.heap[A]? = some (BR r (.slice ao z cap))) (first | exact HC2.out | assumption | exact held4_below (by assumption) (by assumption) | exact held4_others HNE.out (by assumption) (by assumption)) (first
    | (go_at_call 148; refine (packAttr_any r.k r.l r.s r.t _ HT.out.1.1 HT.out.1.2 HT.out.2.1 HT.out.2.2).mono ?_; rintro e x2 ⟨rfl, hb2⟩)
    | (go_at_call 145; refine (add_any (Re.anz r.k r.l r.s r.t) 3 (At.packOut r.k r.l r.s r.t) A b (Re.f2 r) w v2 _ (HF2.out.drew.step hb2).2 (lens r).2.2.1).mono ?_; rintro e w3 ⟨rfl, v3, hst3, ho3⟩))
  have HF3 : Hid (Fr A A b r (.slice ao z cap) (Re.f3 r) w v3 w3) := ⟨ho3 A _ _ (by decide) HNE.out (HF2.out.drew.step hb2).1, hst3⟩
  clear hst3 ho3 hb2 HC2 HF2
  clear hng2
  have c3 : w3.cell? ⟨A, 7, none⟩ = some (.string r.data) := (ten_of HF3.out.1).2.2.2.2.2.2.2.1
  go_wp2_with fail
  refine (add_any (!r.data.toList.isEmpty) 4 r.data A b (Re.f3 r) w v3 _ HF3.out.2 (lens r).2.2.2.1).mono ?_
  rintro e w4 ⟨rfl, v4, hst4, ho4⟩
  have HF4 : Hid (Fr A A b r (.slice ao z cap) (Re.f4 r) w v4 w4) := ⟨ho4 A _ _ (by decide) HNE.out HF3.out.1, hst4⟩
  clear hst4 ho4 c3 HF3
  have c4 : w4.cell? ⟨A, 8, none⟩ = some (.slice ao z cap) := (ten_of HF4.out.1).2.2.2.2.2.2.2.2.1
  have HL4 : Hid ((Re.f4 r).length ≤ 4) := (lens r).2.2.2.2
  go_wp2_with fail
  clear c4
  go_loopw [44] (fun i wr => ∃ (k : Nat) (v : Value), k ≤ z ∧ i = .int .i64 k ∧ Hid (Fr A A b r (.slice ao z cap) (Re.f4 r ++ Re.ef (r.ents.take k)) w v wr)) (fun i _ => z - (intOf i).toNat)
  case atStart => exact ⟨0, v4, Nat.zero_le _, rfl, by show Fr A A b r (.slice ao z cap) (Re.f4 r ++ Re.ef (r.ents.take 0)) w v4 w4; simpa [Re.ef] using HF4.out⟩
  case round =>
    obtain ⟨k, v, hk, rfl, HF⟩ := hrel
    by_cases hlt : k < z
    · obtain ⟨x, hxk⟩ : ∃ x, r.ents[k]? = some x := ⟨_, List.getElem?_eq_getElem (by rw [HZ.out]; exact hlt)⟩
      have HE : Hid (Re.ef (r.ents.take (k + 1)) = Re.ef (r.ents.take k) ++ opt true (5, Re.ebytes x)) := ef_take hxk
      have HXM : Hid ((1 ≤ x.2.1 ∧ x.2.1 ≤ 1099511627776) ∧ Nm.ok x.1 ∧ hokP x.2.2.1 x.2.2.2) := HM.out.2 x (List.mem_of_getElem? hxk)
      have HLK : Hid ((Re.f4 r ++ Re.ef (r.ents.take k)).length ≤ 1000) := by
        have h1 := HL4.out
        show (Re.f4 r ++ Re.ef (r.ents.take k)).length ≤ 1000
        simp only [List.length_append, Re.ef, List.length_map, List.length_take]
        omega
      obtain ⟨bb, off, rfl, -, hB, hcx⟩ := HX.out k x hxk
      obtain ⟨c0, c1, c2, c3⟩ := four_at hcx HF.out.2.below hB
      clear hcx hxk
      have hlt' : (k : Int) < (z : Int) := by omega
      go_wp2_with fail
      refine (packEntry_any x _ (by have := HXM.out.1; omega) (by have := HXM.out.2.2.1; omega) (by have := HXM.out.2.2.2; omega) (by have := Re.ok_size HXM.out.2.1; omega)).mono ?_
      rintro e x5 ⟨rfl, hb5⟩
      have HF5 : Hid (Fr A A b r (.slice (some ⟨bb, off, none⟩) z cap) (Re.f4 r ++ Re.ef (r.ents.take k)) w v x5) := (HF.out.step ((Below.refl _ _).alloc (Nat.le_refl _) _)).step hb5
      clear hb5 c0 c1 c2 c3
      go_wp2_with fail
      refine (add_any true 5 (Re.ebytes x) A b _ w v _ HF5.out.2 HLK.out).mono ?_
      rintro e w6 ⟨rfl, v6, hst6, ho6⟩
      have HF6 : Hid (Fr A A b r (.slice (some ⟨bb, off, none⟩) z cap) (Re.f4 r ++ Re.ef (r.ents.take (k + 1))) w v6 w6) := ⟨ho6 A _ _ (by decide) HNE.out HF5.out.1, by rw [HE.out, ← List.append_assoc]; exact hst6⟩
      clear hst6 ho6
      go_wp2
      go_roundw
      case rel => exact ⟨k + 1, v6, by omega, by go_num, HF6.out⟩
      case measure => simp [intOf]; omega
    · obtain rfl : k = z := by omega
      have HF5 : Hid (Fr A A b r (.slice ao k cap) (Re.f5 r) w v wr) := by
        have := HF.out
        rw [List.take_of_length_le (by rw [HZ.out]; exact Nat.le_refl _)] at this
        exact this
      have HL5 : Hid ((Re.f5 r).length ≤ 1000) := by
        have h1 := HL4.out
        have h2 := HZ.out
        show (Re.f5 r).length ≤ 1000
        simp only [Re.f5, List.length_append, Re.ef, List.length_map]
        omega
      clear HF HF4
      have hlt' : ¬ (k : Int) < (k : Int) := by omega
      go_wp2_with fail
      have HC5 : Hid (wr.cell? ⟨A, 9, none⟩ = some (.int .i64 r.n) ∧ wr.cell? ⟨A, 9, none⟩ = some (.int .i64 r.n) ∧ wr.heap[A]? = some (BR r (.slice ao k cap))) := ⟨(ten_of HF5.out.1).2.2.2.2.2.2.2.2.2, (ten_of HF5.out.1).2.2.2.2.2.2.2.2.2, HF5.out.1⟩
      go_region_held3 (fun w' => w'.cell? ⟨A, 9, none⟩ = some (.int .i64 r.n) ∧ w'.cell? ⟨A, 9, none⟩ = some (.int .i64 r.n) ∧ w'.heap[A]? = some (BR r (.slice ao k cap))) (first | exact HC5.out | assumption | exact held2_below (by assumption) (by assumption) | exact held2_others HNE.out (by assumption) (by assumption)) (first
        | (go_at_call 146; refine (num_s r.n 6 _ HN.out.2).mono ?_; rintro e x5 ⟨rfl, hb5⟩)
        | (go_at_call 145; refine (add_any (r.n != 0) 6 (Pl.numOut r.n 6) A b (Re.f5 r) w v _ (HF5.out.drew.step hb5).2 HL5.out).mono ?_; rintro e w6 ⟨rfl, v6, hst6, ho6⟩))
      have HF6 : Hid (Fr A A b r (.slice ao k cap) (Re.fields r) w v6 w6) := ⟨ho6 A _ _ (by decide) HNE.out (HF5.out.drew.step hb5).1, hst6⟩
      clear hst6 ho6 hb5 HC5 HF5
      have c8 := HF6.out.2.box.cell
      go_wp2
      go_ret
      refine ⟨_, rfl, HF6.out.2.fields, ?_⟩
      rw [HAA.out]
      exact HF6.out.2.below
end Go.Proofs.YtkdhbjmpjbdobaaGreatDoor.Ns
/- RPack -/
namespace Go.Proofs.YtkdhbjmpjbdobaaGreatDoor.Ns
open Go.ChangeShapes Go.WideShapes Go.ChangeAt Go.RowKit Go.Deep
set_option maxRecDepth 100000
open Ak

theorem Re.packs {r : Rep} (h : Re.rightP r) : Pl.packOut (Re.fields r) = Re.packOut r ∧ Re.packErr r = 0 := by
  have hu := Re.up_fields h
  have hr := Re.right_iff.2 h
  exact ⟨by rw [Pl.packOut, hu.1, if_pos rfl, Re.packOut, if_pos hr], by rw [Re.packErr, if_pos hr]⟩
set_option maxRecDepth 100000 in
set_option maxHeartbeats 2000000 in
theorem repPack_any (r : Rep) (u : Value) (w : World) (hv : AtW EE w u r.ents) (hs : ∀ x ∈ r.ents, x.1.size ≤ maxLen) : Calls Tryz.prog 72 #[VR r u] w fun e w' => e = .returned (.tuple #[.string (Re.packOut r), .int .i64 (Re.packErr r)]) ∧ Below w.heap.size w w' := by
  obtain ⟨ao, cap, rfl, -, -⟩ := (show AtW EE w u r.ents from hv).open
  have HV : Hid (AtW EE w (.slice ao r.ents.length cap) r.ents) := hv
  have HS : Hid (∀ x ∈ r.ents, x.1.size ≤ maxLen) := hs
  obtain ⟨z, hz⟩ : ∃ z, r.ents.length = z := ⟨_, rfl⟩
  rw [hz] at HV ⊢
  clear hv hs hz
  by_cases hr : Re.rightP r
  · have HR : Hid (Re.rightP r) := hr
    have HC : Hid ((if Re.right r then (0 : Int) else 4) = 0) := by show (if Re.right r then (0 : Int) else 4) = 0; rw [if_pos (Re.right_iff.2 hr)]
    have HO : Hid (Pl.packOut (Re.fields r) = Re.packOut r ∧ Re.packErr r = 0) := Re.packs hr
    have HE : Hid ((Pl.encs (Re.fields r)).length ≤ 1099511627776) := Nat.le_trans (Re.up_fields hr).2.2 (by omega)
    clear hr
    go_enter Tryz.func72, Tryz.ntmps72
    go_wp2_with fail
    refine (check_is r _ _ 0 (HV.out.al _) HS.out HC).mono ?_
    rintro e w1 ⟨rfl, hb1⟩
    have HB1 : Hid (Below w.heap.size w w1) := ((Below.refl _ _).alloc (Nat.le_refl _) _).trans (hb1.mono (by simp))
    have HV1 : Hid (AtW EE w1 (.slice ao z cap) r.ents) := HV.out.up HB1.out
    obtain ⟨c0, c1, c2, c3, c4, c5, c6, c7, c8, c9⟩ := ten_of (block_step (heap_alloc_new w (BR r (.slice ao z cap))) hb1)
    clear hb1
    go_wp2_with fail
    refine (fields_any r _ _ HR.out HV1.out).mono ?_
    rintro e w2 ⟨v2, rfl, hf2, hb2⟩
    have HB2 : Hid (Below w.heap.size w w2) := HB1.out.trans (hb2.mono HB1.out.size)
    have HF2 : Hid (FieldsAt w2.heap.size w2 v2 (Re.fields r)) := hf2
    clear hb2 hf2 c0 c1 c2 c3 c4 c5 c6 c7 c8 c9
    go_wp2_with fail
    refine (pack_any _ _ _ HF2.out HE.out).mono ?_
    rintro e w3 ⟨rfl, hb3⟩
    rw [HO.out.1]
    go_wp2
    go_ret2
    rw [HO.out.2]
    exact ⟨rfl, HB2.out.trans (hb3.mono HB2.out.size)⟩
  · have hw := Re.wrong_iff.2 hr
    have HC : Hid ((if Re.right r then (0 : Int) else 4) = 4) := by show (if Re.right r then (0 : Int) else 4) = 4; rw [hw]; rfl
    have HO : Hid (Re.packOut r = ⟨#[]⟩ ∧ Re.packErr r = 4) := ⟨by simp [Re.packOut, hw], by simp [Re.packErr, hw]⟩
    clear hr hw
    go_enter Tryz.func72, Tryz.ntmps72
    go_wp2_with fail
    refine (check_is r _ _ 4 (HV.out.al _) HS.out HC).mono ?_
    rintro e w1 ⟨rfl, hb1⟩
    have HB1 : Hid (Below w.heap.size w w1) := ((Below.refl _ _).alloc (Nat.le_refl _) _).trans (hb1.mono (by simp))
    go_wp2
    go_ret2
    rw [HO.out.1, HO.out.2]
    exact ⟨rfl, HB1.out⟩
end Go.Proofs.YtkdhbjmpjbdobaaGreatDoor.Ns
/- RUnpack -/
namespace Go.Proofs.YtkdhbjmpjbdobaaGreatDoor.Ns
open Go.ChangeShapes Go.WideShapes Go.ChangeAt Go.RowKit Go.Deep
set_option maxRecDepth 100000
open Ak

namespace Ak
theorem parse_small : ∀ (f : Nat) (last : Int) (l : List UInt8), ∀ x ∈ (Pl.parse f last l).1, x.2.size ≤ 65535
  | 0, _, _, x, hx => by simp [Pl.parse] at hx
  | f + 1, last, l, x, hx => by
    unfold Pl.parse at hx
    split at hx
    · simp at hx
    · split at hx
      · unfold Pl.join at hx
        split at hx
        · simp only [List.cons_append, List.nil_append, List.mem_cons] at hx
          rcases hx with rfl | hx
          · simp only [Pl.fieldOf, Pl.txt_size, List.length_take]
            have h1 := (l.getD 1 0).toNat_lt
            have h2 := (l.getD 2 0).toNat_lt
            unfold Pl.lenOf
            omega
          · exact parse_small f _ _ x hx
        · simp at hx
      · simp at hx
theorem unp_small (L : List UInt8) {k : Nat} (h : k < (Pl.unpOut L).length) : ((Pl.unpOut L).getD k (0, .empty)).2.size ≤ 65535 := by
  have : (Pl.unpOut L).getD k (0, .empty) = (Pl.unpOut L)[k] := by simp [List.getD, h]
  rw [this]
  exact parse_small _ _ _ _ (List.getElem_mem h)
end Ak
theorem str_ne {a b : ByteArray} (h : a ≠ b) : (a.toList == b.toList) = false := by
  rw [ByteArray.toList_eq, ByteArray.toList_eq, beq_eq_false_iff_ne]
  intro e
  apply h
  rw [← Pl.txt_toList a, ← Pl.txt_toList b, e]
theorem _root_.Go.Proofs.YtkdhbjmpjbdobaaGreatDoor.FieldsAt.openn {B : Nat} {w : World} {v : Value} {l : List (Int × ByteArray)} (h : FieldsAt B w v l) : ∃ ao cap, v = .slice ao l.length cap ∧ l.length ≤ maxLen ∧ ∀ i, i < l.length → ∃ b off, ao = some ⟨b, off, none⟩ ∧ b < B ∧ w.cell? ⟨b, off + i * 2, none⟩ = some (.int .i64 (l.getD i (0, .empty)).1) ∧ w.cell? ⟨b, off + i * 2 + 1, none⟩ = some (.string (l.getD i (0, .empty)).2) := by
  rcases h with ⟨ao, cap, rfl, rfl⟩ | ⟨b, off, cap, rfl, hB, hp, hlc, hm, hx⟩
  · exact ⟨ao, cap, rfl, Nat.zero_le _, fun i hi => by simp at hi⟩
  · exact ⟨_, cap, rfl, Nat.le_trans hlc hm, fun i hi => ⟨b, off, rfl, hB, hx i hi⟩⟩
namespace Re
theorem last_all (l : List (Int × ByteArray)) (t : Int) : (Pl.allOf l t).foldl (fun _ s => s) (⟨#[]⟩ : ByteArray) = lastOf l t := by
  induction l using rev_ind with
  | h0 => rfl
  | h1 l x ih =>
    rw [lastOf_snoc, allOf_append, List.foldl_append, ih]
    by_cases h : x.1 = t
    · have : Pl.allOf [x] t = [x.2] := by simp [Pl.allOf, h]
      rw [this, if_pos h]
      rfl
    · have : Pl.allOf [x] t = [] := by simp [Pl.allOf, h]
      rw [this, if_neg h]
      rfl
theorem fold_last {α : Type} (f : ByteArray → α) (l : List ByteArray) : ∀ (b : ByteArray), l.foldl (fun _ s => f s) (f b) = f (l.foldl (fun _ s => s) b) := by
  induction l with
  | nil => intro b; rfl
  | cons x l ih => intro b; exact ih x
theorem fold1 (A : List ByteArray) (r : Rep) (b : ByteArray) (h : r.e = Pl.numVal b) : A.foldl st1 r = { r with e := Pl.numVal (A.foldl (fun _ s => s) b) } := by
  induction A generalizing r b with
  | nil => cases r; simp only at h; subst h; rfl
  | cons x A ih => exact ih (st1 r x) x rfl
theorem fold2 (A : List ByteArray) (r : Rep) (b : ByteArray) (h : r.no = hno b ∧ r.gen = hgen b) : A.foldl st2 r = { r with no := hno (A.foldl (fun _ s => s) b), gen := hgen (A.foldl (fun _ s => s) b) } := by
  induction A generalizing r b with
  | nil => cases r; simp only at h; obtain ⟨h1, h2⟩ := h; subst h1; subst h2; rfl
  | cons x A ih => exact ih (st2 r x) x ⟨rfl, rfl⟩
theorem fold3 (A : List ByteArray) (r : Rep) (b : ByteArray) (h : r.k = (ua b).1 ∧ r.l = (ua b).2.1 ∧ r.s = (ua b).2.2.1 ∧ r.t = (ua b).2.2.2) : A.foldl st3 r = { r with k := (ua (A.foldl (fun _ s => s) b)).1, l := (ua (A.foldl (fun _ s => s) b)).2.1, s := (ua (A.foldl (fun _ s => s) b)).2.2.1, t := (ua (A.foldl (fun _ s => s) b)).2.2.2 } := by
  induction A generalizing r b with
  | nil => cases r; simp only at h; obtain ⟨h1, h2, h3, h4⟩ := h; subst h1; subst h2; subst h3; subst h4; rfl
  | cons x A ih => exact ih (st3 r x) x ⟨rfl, rfl, rfl, rfl⟩
theorem fold4 (A : List ByteArray) (r : Rep) (b : ByteArray) (h : r.data = b) : A.foldl st4 r = { r with data := A.foldl (fun _ s => s) b } := by
  induction A generalizing r b with
  | nil => cases r; simp only at h; subst h; rfl
  | cons x A ih => exact ih (st4 r x) x rfl
theorem fold5 (A : List ByteArray) (r : Rep) : A.foldl st5 r = { r with ents := r.ents ++ A.map entOf } := by
  induction A generalizing r with
  | nil => cases r; simp
  | cons x A ih =>
    show A.foldl st5 (st5 r x) = _
    rw [ih]
    simp [st5]
theorem fold6 (A : List ByteArray) (r : Rep) (b : ByteArray) (h : r.n = Pl.numVal b) : A.foldl st6 r = { r with n := Pl.numVal (A.foldl (fun _ s => s) b) } := by
  induction A generalizing r b with
  | nil => cases r; simp only at h; subst h; rfl
  | cons x A ih => exact ih (st6 r x) x rfl
theorem ua_nil : ua ⟨#[]⟩ = (0, 0, 0, 0) := by
  unfold ua
  rw [if_neg]
  unfold At.unpErr
  rw [if_neg (by decide)]
  decide
/-- Tag by tag, what reply reads is what the fields say. -/
theorem reads (l : List (Int × ByteArray)) : (Pl.allOf l 6).foldl st6 ((Pl.allOf l 5).foldl st5 ((Pl.allOf l 4).foldl st4 ((Pl.allOf l 3).foldl st3 ((Pl.allOf l 2).foldl st2 ((Pl.allOf l 1).foldl st1 zero))))) = replyOf l := by
  have nz : Pl.numVal ⟨#[]⟩ = 0 := by decide
  have hz : hno ⟨#[]⟩ = 0 ∧ hgen ⟨#[]⟩ = 0 := by decide
  rw [fold1 _ zero ⟨#[]⟩ nz.symm, fold2 _ _ ⟨#[]⟩ ⟨hz.1.symm, hz.2.symm⟩, fold3 _ _ ⟨#[]⟩ (by rw [ua_nil]; exact ⟨rfl, rfl, rfl, rfl⟩), fold4 _ _ ⟨#[]⟩ rfl, fold5, fold6 _ _ ⟨#[]⟩ nz.symm]
  simp only [last_all]
  unfold replyOf
  simp [zero]
end Re
theorem row_at {w : World} {B : Nat} {e : TypeId} {v : Value} {l : List Ent} (h : w.ownsRow B e 4 v l.length (EE.flat l)) : At EE (fun b => B ≤ b) w v l := by
  have hr : Row EE w B e v l := by
    rcases h.2 with ⟨rfl, hn⟩ | ⟨g, cap, cur, rfl, hbg, hg, hnc, hcm, hcs, htake⟩
    · obtain rfl := List.eq_nil_of_length_eq_zero hn
      exact .inl ⟨rfl, rfl⟩
    · exact .inr ⟨g, cap, cur, rfl, hbg, hg, hnc, hcm, Nat.le_of_eq hcs.symm, htake⟩
  exact hr.at
def putR (w : World) (b : Nat) (r : Rep) (v : Value) : World := (((((((((w.setCell ⟨b, 0, none⟩ (.int .i64 r.e)).setCell ⟨b, 1, none⟩ (.int .i64 r.no)).setCell ⟨b, 2, none⟩ (.int .i64 r.gen)).setCell ⟨b, 3, none⟩ (.int .i64 r.k)).setCell ⟨b, 4, none⟩ (.int .i64 r.l)).setCell ⟨b, 5, none⟩ (.int .i64 r.s)).setCell ⟨b, 6, none⟩ (.int .i64 r.t)).setCell ⟨b, 7, none⟩ (.string r.data)).setCell ⟨b, 8, none⟩ v).setCell ⟨b, 9, none⟩ (.int .i64 r.n)
theorem putR_heap {w : World} {b : Nat} {r : Rep} {v : Value} (h : w.heap[b]? = some (BR r v)) (d : Rep) (u : Value) : (putR w b d u).heap[b]? = some (BR d u) := by
  unfold putR
  simp [World.setCell, Array.getElem?_modify, h]
theorem putR_below {B b : Nat} {w w' : World} (h : Below B w w') (hb : B ≤ b) (d : Rep) (u : Value) : Below B w (putR w' b d u) :=
  (((((((((h.setCell (p := ⟨b, 0, none⟩) hb _).setCell (p := ⟨b, 1, none⟩) hb _).setCell (p := ⟨b, 2, none⟩) hb _).setCell (p := ⟨b, 3, none⟩) hb _).setCell (p := ⟨b, 4, none⟩) hb _).setCell (p := ⟨b, 5, none⟩) hb _).setCell (p := ⟨b, 6, none⟩) hb _).setCell (p := ⟨b, 7, none⟩) hb _).setCell (p := ⟨b, 8, none⟩) hb _).setCell (p := ⟨b, 9, none⟩) hb _
theorem putR_grown (w : World) (b : Nat) (d : Rep) (u : Value) : w.grownBy (putR w b d u) (some b) :=
  grown_trans (grown_trans (grown_trans (grown_trans (grown_trans (grown_trans (grown_trans (grown_trans (grown_trans (grown_set w b 0 _) (grown_set _ b 1 _)) (grown_set _ b 2 _)) (grown_set _ b 3 _)) (grown_set _ b 4 _)) (grown_set _ b 5 _)) (grown_set _ b 6 _)) (grown_set _ b 7 _)) (grown_set _ b 8 _)) (grown_set _ b 9 _)
theorem fold_len (f : Rep → ByteArray → Rep) (hf : ∀ r s, (f r s).ents = r.ents) (A : List ByteArray) (r : Rep) : (A.foldl f r).ents = r.ents := by
  induction A generalizing r with
  | nil => rfl
  | cons x A ih => exact (ih (f r x)).trans (hf r x)
set_option maxRecDepth 100000 in
set_option maxHeartbeats 4000000 in
theorem reply_any (fv : Value) (l : List (Int × ByteArray)) (w : World) (hf : FieldsAt w.heap.size w fv l) (hln : l.length ≤ 400000) (hsm : ∀ x ∈ l, x.2.size ≤ 65535) :
    Calls Tryz.prog 71 #[fv] w fun e w' => ∃ v, e = .returned (VR (Re.replyOf l) v) ∧ At EE (fun b => w.heap.size ≤ b) w' v (Re.replyOf l).ents ∧ Below w.heap.size w w' := by
  have HF : Hid (FieldsAt w.heap.size w fv l) := hf
  have HLN : Hid (l.length ≤ 400000) := hln
  have HSM : Hid (∀ x ∈ l, x.2.size ≤ 65535) := hsm
  have HRE : Hid (((Pl.allOf l 6).foldl Re.st6 ((Pl.allOf l 5).foldl Re.st5 ((Pl.allOf l 4).foldl Re.st4 ((Pl.allOf l 3).foldl Re.st3 ((Pl.allOf l 2).foldl Re.st2 ((Pl.allOf l 1).foldl Re.st1 Re.zero)))))) = Re.replyOf l) := Re.reads l
  obtain ⟨v1, hv1⟩ : ∃ v1 : Value, v1 = .slice none 0 0 := ⟨_, rfl⟩
  have HR1 : Hid (Rs w.heap.size (w.heap.size + 1) w Re.zero v1 ((w.alloc (BR Re.zero (.slice none 0 0))).alloc (BR Re.zero (.slice none 0 0))) ∧ ((w.alloc (BR Re.zero (.slice none 0 0))).alloc (BR Re.zero (.slice none 0 0))).heap[w.heap.size]? = some (BR Re.zero (.slice none 0 0))) := by
    rw [hv1]
    refine ⟨⟨?_, World.ownsRow_nil _ _ _ _, ((Below.refl _ _).alloc (Nat.le_refl _) _).alloc (by simp) _, by omega, Nat.le_refl _⟩, (Below.heap_alloc _ _ _ (by simp)).trans (heap_alloc_new w _)⟩
    have := heap_alloc_new (w.alloc (BR Re.zero (.slice none 0 0))) (BR Re.zero (.slice none 0 0))
    rw [World.size_alloc] at this
    exact this
  clear hf hln hsm hv1
  go_enter Tryz.func71, Tryz.ntmps71
  go_wp2_with fail
  refine (read1_any w.heap.size (w.heap.size + 1) w 400000 (by omega) _ v1 _ l 1 _ HR1.out.1 (Nat.zero_le _) ((HF.out.below HR1.out.1.below (Nat.le_refl _)).mono HR1.out.1.below.size) HLN.out HSM.out).mono ?_
  rintro e w2 ⟨rfl, v2, hr2, ho2⟩
  have HR2 : Hid (Rs w.heap.size (w.heap.size + 1) w ((Pl.allOf l 1).foldl Re.st1 Re.zero) v2 w2 ∧ w2.heap[w.heap.size]? = some (BR Re.zero (.slice none 0 0))) := ⟨hr2, ho2.2 _ _ _ (by decide) (by omega) HR1.out.2⟩
  have HL2 : Hid (((Pl.allOf l 1).foldl Re.st1 Re.zero).ents.length ≤ 400000) := by show ((Pl.allOf l 1).foldl Re.st1 Re.zero).ents.length ≤ _; rw [fold_len Re.st1 (fun _ _ => rfl)]; exact Nat.zero_le _
  clear hr2 ho2
  go_wp2_with fail
  refine (read2_any w.heap.size (w.heap.size + 1) w 400000 (by omega) _ v2 _ l 2 _ HR2.out.1 HL2.out ((HF.out.below HR2.out.1.below (Nat.le_refl _)).mono HR2.out.1.below.size) HLN.out HSM.out).mono ?_
  rintro e w3 ⟨rfl, v3, hr3, ho3⟩
  have HR3 : Hid (Rs w.heap.size (w.heap.size + 1) w ((Pl.allOf l 2).foldl Re.st2 ((Pl.allOf l 1).foldl Re.st1 Re.zero)) v3 w3 ∧ w3.heap[w.heap.size]? = some (BR Re.zero (.slice none 0 0))) := ⟨hr3, ho3.2 _ _ _ (by decide) (by omega) HR2.out.2⟩
  have HL3 : Hid (((Pl.allOf l 2).foldl Re.st2 ((Pl.allOf l 1).foldl Re.st1 Re.zero)).ents.length ≤ 400000) := by show ((Pl.allOf l 2).foldl Re.st2 ((Pl.allOf l 1).foldl Re.st1 Re.zero)).ents.length ≤ _; rw [fold_len Re.st2 (fun _ _ => rfl)]; exact HL2.out
  clear hr3 ho3
  go_wp2_with fail
  refine (read3_any w.heap.size (w.heap.size + 1) w 400000 (by omega) _ v3 _ l 3 _ HR3.out.1 HL3.out ((HF.out.below HR3.out.1.below (Nat.le_refl _)).mono HR3.out.1.below.size) HLN.out HSM.out).mono ?_
  rintro e w4 ⟨rfl, v4, hr4, ho4⟩
  have HR4 : Hid (Rs w.heap.size (w.heap.size + 1) w ((Pl.allOf l 3).foldl Re.st3 ((Pl.allOf l 2).foldl Re.st2 ((Pl.allOf l 1).foldl Re.st1 Re.zero))) v4 w4 ∧ w4.heap[w.heap.size]? = some (BR Re.zero (.slice none 0 0))) := ⟨hr4, ho4.2 _ _ _ (by decide) (by omega) HR3.out.2⟩
  have HL4 : Hid (((Pl.allOf l 3).foldl Re.st3 ((Pl.allOf l 2).foldl Re.st2 ((Pl.allOf l 1).foldl Re.st1 Re.zero))).ents.length ≤ 400000) := by show ((Pl.allOf l 3).foldl Re.st3 ((Pl.allOf l 2).foldl Re.st2 ((Pl.allOf l 1).foldl Re.st1 Re.zero))).ents.length ≤ _; rw [fold_len Re.st3 (fun _ _ => rfl)]; exact HL3.out
  clear hr4 ho4
  go_wp2_with fail
  refine (read4_any w.heap.size (w.heap.size + 1) w 400000 (by omega) _ v4 _ l 4 _ HR4.out.1 HL4.out ((HF.out.below HR4.out.1.below (Nat.le_refl _)).mono HR4.out.1.below.size) HLN.out HSM.out).mono ?_
  rintro e w5 ⟨rfl, v5, hr5, ho5⟩
  have HR5 : Hid (Rs w.heap.size (w.heap.size + 1) w ((Pl.allOf l 4).foldl Re.st4 ((Pl.allOf l 3).foldl Re.st3 ((Pl.allOf l 2).foldl Re.st2 ((Pl.allOf l 1).foldl Re.st1 Re.zero)))) v5 w5 ∧ w5.heap[w.heap.size]? = some (BR Re.zero (.slice none 0 0))) := ⟨hr5, ho5.2 _ _ _ (by decide) (by omega) HR4.out.2⟩
  have HL5 : Hid (((Pl.allOf l 4).foldl Re.st4 ((Pl.allOf l 3).foldl Re.st3 ((Pl.allOf l 2).foldl Re.st2 ((Pl.allOf l 1).foldl Re.st1 Re.zero)))).ents.length ≤ 400000) := by show ((Pl.allOf l 4).foldl Re.st4 ((Pl.allOf l 3).foldl Re.st3 ((Pl.allOf l 2).foldl Re.st2 ((Pl.allOf l 1).foldl Re.st1 Re.zero)))).ents.length ≤ _; rw [fold_len Re.st4 (fun _ _ => rfl)]; exact HL4.out
  clear hr5 ho5
  go_wp2_with fail
  refine (read5_any w.heap.size (w.heap.size + 1) w 400000 (by omega) _ v5 _ l 5 _ HR5.out.1 HL5.out ((HF.out.below HR5.out.1.below (Nat.le_refl _)).mono HR5.out.1.below.size) HLN.out HSM.out).mono ?_
  rintro e w6 ⟨rfl, v6, hr6, ho6⟩
  have HR6 : Hid (Rs w.heap.size (w.heap.size + 1) w ((Pl.allOf l 5).foldl Re.st5 ((Pl.allOf l 4).foldl Re.st4 ((Pl.allOf l 3).foldl Re.st3 ((Pl.allOf l 2).foldl Re.st2 ((Pl.allOf l 1).foldl Re.st1 Re.zero))))) v6 w6 ∧ w6.heap[w.heap.size]? = some (BR Re.zero (.slice none 0 0))) := ⟨hr6, ho6.2 _ _ _ (by decide) (by omega) HR5.out.2⟩
  have HL6 : Hid (((Pl.allOf l 5).foldl Re.st5 ((Pl.allOf l 4).foldl Re.st4 ((Pl.allOf l 3).foldl Re.st3 ((Pl.allOf l 2).foldl Re.st2 ((Pl.allOf l 1).foldl Re.st1 Re.zero))))).ents.length ≤ 400000) := by
    show ((Pl.allOf l 5).foldl Re.st5 ((Pl.allOf l 4).foldl Re.st4 ((Pl.allOf l 3).foldl Re.st3 ((Pl.allOf l 2).foldl Re.st2 ((Pl.allOf l 1).foldl Re.st1 Re.zero))))).ents.length ≤ _
    rw [Re.fold5]
    have h1 : ((Pl.allOf l 4).foldl Re.st4 ((Pl.allOf l 3).foldl Re.st3 ((Pl.allOf l 2).foldl Re.st2 ((Pl.allOf l 1).foldl Re.st1 Re.zero)))).ents = [] := by rw [fold_len Re.st4 (fun _ _ => rfl), fold_len Re.st3 (fun _ _ => rfl), fold_len Re.st2 (fun _ _ => rfl), fold_len Re.st1 (fun _ _ => rfl)]; rfl
    simp only [h1, List.nil_append, List.length_map]
    unfold Pl.allOf
    rw [List.length_map]
    exact Nat.le_trans (List.length_filter_le _ _) HLN.out
  clear hr6 ho6
  go_wp2_with fail
  refine (read6_any w.heap.size (w.heap.size + 1) w 400000 (by omega) _ v6 _ l 6 _ HR6.out.1 HL6.out ((HF.out.below HR6.out.1.below (Nat.le_refl _)).mono HR6.out.1.below.size) HLN.out HSM.out).mono ?_
  rintro e w7 ⟨rfl, v7, hr7, ho7⟩
  have HR7 : Hid (Rs w.heap.size (w.heap.size + 1) w ((Pl.allOf l 6).foldl Re.st6 ((Pl.allOf l 5).foldl Re.st5 ((Pl.allOf l 4).foldl Re.st4 ((Pl.allOf l 3).foldl Re.st3 ((Pl.allOf l 2).foldl Re.st2 ((Pl.allOf l 1).foldl Re.st1 Re.zero)))))) v7 w7 ∧ w7.heap[w.heap.size]? = some (BR Re.zero (.slice none 0 0))) := ⟨hr7, ho7.2 _ _ _ (by decide) (by omega) HR6.out.2⟩
  clear hr7 ho7
  rw [HRE.out] at HR7
  obtain ⟨r, hr⟩ : ∃ r, Re.replyOf l = r := ⟨_, rfl⟩
  rw [hr] at HR7
  have HRR : Hid (Re.replyOf l = r) := hr
  obtain ⟨ao, cap, hv7, -, -⟩ := (row_at HR7.out.1.row).open
  obtain ⟨z, hz⟩ : ∃ z, r.ents.length = z := ⟨_, rfl⟩
  rw [hz] at hv7
  subst hv7
  obtain ⟨c0, c1, c2, c3, c4, c5, c6, c7, c8, c9⟩ := ten_of HR7.out.1.box
  obtain ⟨d0, d1, d2, d3, d4, d5, d6, d7, d8, d9⟩ := ten_of HR7.out.2
  have hl1 := block_lt HR7.out.1.box
  have hl2 := block_lt HR7.out.2
  have fa : ∀ j, w7.frozen? ⟨w.heap.size, j, none⟩ = false := fun j => by simp [World.frozen?, HR7.out.2]
  clear hr HRE
  go_wp2
  refine bodyPost_ret (v := VR r (.slice ao z cap)) (by simp [results, Tryz.results71, go_sem, d0, d1, d2, d3, d4, d5, d6, d7, d8, d9]) rfl ⟨.slice ao z cap, ?_, ?_, ?_⟩
  · rw [HRR.out]
  · rw [HRR.out]
    exact row_at (HR7.out.1.row.kept (putR_grown w7 w.heap.size r (.slice ao z cap)) (.inr (not_row HR7.out.2 (by decide) HR7.out.1.row).symm))
  · exact putR_below HR7.out.1.below (Nat.le_refl _) r (.slice ao z cap)
namespace Ak
theorem parse_len : ∀ (f : Nat) (last : Int) (l : List UInt8), (Pl.parse f last l).1.length * 3 ≤ l.length
  | 0, _, _ => by simp [Pl.parse]
  | f + 1, last, l => by
    unfold Pl.parse
    split
    · simp
    · split
      · rename_i h1 h2
        have ih := parse_len f (Pl.tagOf l) (l.drop (3 + Pl.lenOf l))
        have h3 : ¬ l.length < 3 := by
          intro h
          simp [Pl.stepErr, h] at h2
        unfold Pl.join
        split
        · simp only [List.cons_append, List.nil_append, List.length_cons]
          rw [List.length_drop] at ih
          omega
        · simp
      · simp
end Ak
theorem Re.ent_small {l : List (Int × ByteArray)} (h : ∀ x ∈ l, x.2.size ≤ 65535) : ∀ x ∈ (Re.replyOf l).ents, x.1.size ≤ maxLen := by
  intro x hx
  unfold Re.replyOf at hx
  simp only at hx
  obtain ⟨s, hs, rfl⟩ := List.mem_map.1 hx
  unfold Pl.allOf at hs
  obtain ⟨y, hy, rfl⟩ := List.mem_map.1 hs
  have h1 := h y (List.mem_filter.1 hy).1
  unfold Re.entOf maxLen
  split
  · exact Nat.zero_le _
  · simp only [ByteArray.size_extract]
    omega
set_option maxRecDepth 100000 in
set_option maxHeartbeats 4000000 in
theorem repUnpack_at (s : ByteArray) (w : World) (hs : s.size ≤ 1048576) :
    Calls Tryz.prog 41 #[.string s] w fun e w' => ∃ v, e = .returned (.tuple #[VR (Re.unpR s.data.toList) v, .int .i64 (Re.unpE s.data.toList)]) ∧ At EE (fun b => w.heap.size ≤ b) w' v (Re.unpR s.data.toList).ents ∧ Below w.heap.size w w' := by
  have HS : Hid (s.size ≤ 1048576) := hs
  obtain ⟨l, hl⟩ : ∃ l, Pl.unpOut s.data.toList = l := ⟨_, rfl⟩
  have HL : Hid (Pl.unpOut s.data.toList = l) := hl
  have HSM : Hid (∀ x ∈ l, x.2.size ≤ 65535) := by rw [← hl]; exact parse_small _ _ _
  have HLN : Hid (l.length ≤ 400000) := by
    have h1 := parse_len s.data.toList.length 1 s.data.toList
    have h2 : s.data.toList.length = s.size := by simp
    rw [← hl]
    show (Pl.unpOut s.data.toList).length ≤ _
    unfold Pl.unpOut
    omega
  obtain ⟨C, hC⟩ : ∃ C, Re.unpR s.data.toList = C := ⟨_, rfl⟩
  obtain ⟨E, hE⟩ : ∃ E, Re.unpE s.data.toList = E := ⟨_, rfl⟩
  have HCE : Hid (Re.unpR s.data.toList = C ∧ Re.unpE s.data.toList = E) := ⟨hC, hE⟩
  rw [hC, hE]
  clear hC hE hl hs
  by_cases h0 : Pl.unpErr s.data.toList = 0
  · have H0 : Hid (Pl.unpErr s.data.toList = 0) := h0
    clear h0
    go_enter Tryz.func41, Tryz.ntmps41
    go_wp2_with fail
    refine (unpack_any s _ HS.out).mono ?_
    rintro e w1 ⟨fv, rfl, hown, hb1⟩
    rw [H0.out]
    rw [HL.out] at hown
    have HF : Hid (FieldsAt w1.heap.size w1 fv l) := FieldsAt.of_own hown
    have HB1 : Hid (Below w.heap.size w w1) := ((Below.refl _ _).alloc (Nat.le_refl _) _).trans (hb1.mono (by simp))
    have HR1 : Hid (w1.heap[w.heap.size]? = some (BR Re.zero (.slice none 0 0))) := block_step (heap_alloc_new w (BR Re.zero (.slice none 0 0))) hb1
    clear hown hb1
    go_wp2_with fail
    refine (reply_any fv l _ HF.out HLN.out HSM.out).mono ?_
    rintro e w2 ⟨v, rfl, hv2, hb2⟩
    have HES : Hid (∀ x ∈ (Re.replyOf l).ents, x.1.size ≤ maxLen) := Re.ent_small HSM.out
    have HCC : Hid (Re.replyOf (Pl.unpOut s.data.toList) = Re.replyOf l) := by show _ = _; rw [HL.out]
    generalize Re.replyOf l = r at *
    have HV2 : Hid (At EE (fun b => w1.heap.size ≤ b) w2 v r.ents) := hv2
    obtain ⟨ao, cap, hv, -, -⟩ := hv2.open
    obtain ⟨z, hz⟩ : ∃ z, r.ents.length = z := ⟨_, rfl⟩
    rw [hz] at hv
    subst hv
    have HB2 : Hid (Below w.heap.size w w2) := HB1.out.trans (hb2.mono HB1.out.size)
    have HR2 : Hid (w2.heap[w.heap.size]? = some (BR Re.zero (.slice none 0 0))) := block_step HR1.out hb2
    have hl2 := block_lt HR2.out
    clear hb2 hv2 hz
    go_wp2_with fail
    refine (repPack_any r _ _ (HV2.out.al _).wide HES.out).mono ?_
    rintro e w3 ⟨rfl, hb3⟩
    have HK3 : Hid (w3.heap[w2.heap.size]? = some (BR r (.slice ao z cap))) := block_step (heap_alloc_new w2 _) hb3
    have HR3 : Hid (w3.heap[w.heap.size]? = some (BR Re.zero (.slice none 0 0))) := block_step ((Below.heap_alloc _ _ _ hl2).trans HR2.out) hb3
    have HB3 : Hid (Below w.heap.size w w3) := (HB2.out.alloc HB2.out.size _).trans (hb3.mono (by have := HB2.out.size; simp; omega))
    have HV3 : Hid (At EE (fun b => w1.heap.size ≤ b) w3 (.slice ao z cap) r.ents) := (HV2.out.al _).up hb3
    have HLT : Hid (w.heap.size < w1.heap.size) := block_lt HR1.out
    have fa : ∀ j, w3.frozen? ⟨w.heap.size, j, none⟩ = false := fun j => by simp [World.frozen?, HR3.out]
    have hl3 : w.heap.size < w3.heap.size := block_lt HR3.out
    obtain ⟨d0, d1, d2, d3, d4, d5, d6, d7, d8, d9⟩ := ten_of HR3.out
    obtain ⟨c0, c1, c2, c3, c4, c5, c6, c7, c8, c9⟩ := ten_of HK3.out
    clear hb3
    by_cases hp : Re.packErr r = 0
    · by_cases hq : Re.packOut r = s
      · have HY := Re.isRep_yes H0.out (by rw [HCC.out]; exact hp) (by rw [HCC.out]; exact hq)
        have H : Hid (C = r ∧ E = 0) := ⟨by rw [← HCE.out.1, HY.1, HCC.out], by rw [← HCE.out.2, HY.2]⟩
        rw [hp, hq]
        have t1 : (s.toList == s.toList) = true := beq_self_eq_true _
        clear hp hq HY
        go_wp2
        refine bodyPost_ret (v := .tuple #[VR r (.slice ao z cap), .int .i64 0]) (by simp [results, Tryz.results41, go_sem, d0, d1, d2, d3, d4, d5, d6, d7, d8, d9]) rfl ⟨.slice ao z cap, ?_, ?_, putR_below HB3.out (Nat.le_refl _) r (.slice ao z cap)⟩
        · rw [H.out.1, H.out.2]
        · rw [H.out.1]
          exact (HV3.out.grown (putR_grown w3 w.heap.size r (.slice ao z cap)) (fun g hg hle => by cases hg; have := HLT.out; omega)).imp (fun b (hb : w1.heap.size ≤ b) _ => by have := HB1.out.size; omega)
      · have HY := Re.isRep_no (s := s) (.inr (.inr (by rw [HCC.out]; exact hq)))
        have H : Hid (C = Re.zero ∧ E = 4) := ⟨by rw [← HCE.out.1, HY.1], by rw [← HCE.out.2, HY.2]⟩
        rw [hp]
        have t1 := str_ne hq
        clear hp hq HY
        generalize Re.packOut r = p at *
        go_wp2
        refine bodyPost_ret (v := .tuple #[VR Re.zero (.slice none 0 0), .int .i64 4]) (by simp [results, Tryz.results41, go_sem, Re.zero, d0, d1, d2, d3, d4, d5, d6, d7, d8, d9]) rfl ⟨.slice none 0 0, ?_, ?_, putR_below HB3.out (Nat.le_refl _) Re.zero (.slice none 0 0)⟩
        · rw [H.out.1, H.out.2]
        · rw [H.out.1]
          exact At.nil
    · have HY := Re.isRep_no (s := s) (.inr (.inl (by rw [HCC.out]; exact hp)))
      have H : Hid (C = Re.zero ∧ E = 4) := ⟨by rw [← HCE.out.1, HY.1], by rw [← HCE.out.2, HY.2]⟩
      have hp' : Re.packErr r = 4 := by unfold Re.packErr at hp ⊢; split at hp <;> simp_all
      rw [hp']
      clear hp hp' HY
      generalize Re.packOut r = p at *
      go_wp2
      refine bodyPost_ret (v := .tuple #[VR Re.zero (.slice none 0 0), .int .i64 4]) (by simp [results, Tryz.results41, go_sem, Re.zero, d0, d1, d2, d3, d4, d5, d6, d7, d8, d9]) rfl ⟨.slice none 0 0, ?_, ?_, putR_below HB3.out (Nat.le_refl _) Re.zero (.slice none 0 0)⟩
      · rw [H.out.1, H.out.2]
      · rw [H.out.1]
        exact At.nil
  · have H1 := Re.isRep_no (.inl h0)
    have H : Hid (C = Re.zero ∧ E = 4) := ⟨HCE.out.1.symm.trans H1.1, HCE.out.2.symm.trans H1.2⟩
    obtain ⟨q, hq⟩ : ∃ q, Pl.unpErr s.data.toList = q := ⟨_, rfl⟩
    have hq1 : (q != 0) = true := by rw [← hq]; simpa using h0
    have HQ : Hid (Pl.unpErr s.data.toList = q) := hq
    clear h0 H1 hq
    go_enter Tryz.func41, Tryz.ntmps41
    go_wp2_with fail
    refine (unpack_any s _ HS.out).mono ?_
    rintro e w1 ⟨fv, rfl, hown, hb1⟩
    rw [HQ.out]
    have HB1 : Hid (Below w.heap.size w w1) := ((Below.refl _ _).alloc (Nat.le_refl _) _).trans (hb1.mono (by simp))
    have HR1 : Hid (w1.heap[w.heap.size]? = some (BR Re.zero (.slice none 0 0))) := block_step (heap_alloc_new w (BR Re.zero (.slice none 0 0))) hb1
    have fa : ∀ j, w1.frozen? ⟨w.heap.size, j, none⟩ = false := fun j => by simp [World.frozen?, HR1.out]
    have hl3 : w.heap.size < w1.heap.size := block_lt HR1.out
    obtain ⟨d0, d1, d2, d3, d4, d5, d6, d7, d8, d9⟩ := ten_of HR1.out
    clear hown hb1
    go_wp2
    refine bodyPost_ret (v := .tuple #[VR Re.zero (.slice none 0 0), .int .i64 4]) (by simp [results, Tryz.results41, go_sem, Re.zero, d0, d1, d2, d3, d4, d5, d6, d7, d8, d9]) rfl ⟨.slice none 0 0, ?_, ?_, putR_below HB1.out (Nat.le_refl _) Re.zero (.slice none 0 0)⟩
    · rw [H.out.1, H.out.2]
    · rw [H.out.1]
      exact At.nil
theorem repUnpack_any (s : ByteArray) (w : World) (hs : s.size ≤ 1048576) :
    Calls Tryz.prog 41 #[.string s] w fun e w' => ∃ v, e = .returned (.tuple #[VR (Re.unpR s.data.toList) v, .int .i64 (Re.unpE s.data.toList)]) ∧ AtW EE w' v (Re.unpR s.data.toList).ents ∧ Below w.heap.size w w' :=
  (repUnpack_at s w hs).mono fun _ _ ⟨v, he, hv, hb⟩ => ⟨v, he, hv.wide, hb⟩
end Go.Proofs.YtkdhbjmpjbdobaaGreatDoor.Ns
/- SSet -/
namespace Go.Proofs.YtkdhbjmpjbdobaaGreatDoor
open Go.ChangeShapes Go.WideShapes Go.ChangeAt Go.RowKit Go.Deep
set_option maxRecDepth 100000
open Sk
namespace Sk
def setB (s : Sb) (q : Int) (d : ByteArray) : Bool := bz s && (decide (q = s.r) && decide (Ns.Re.unpE d.data.toList = 0))
def setS (s : Sb) (q : Int) (d : ByteArray) : Sb := { s with lt := ⟨#[]⟩, L := s.L ++ [Me.packed (mk 2 0 q 0 d)] }
end Sk
theorem settle_no (q : Int) (d : ByteArray) (A B cu cn : Nat) (s : Sb) (w : World) (h : Su w A B cu cn s) (hd : d.size ≤ 8192) (hb : setB s q d = false) : Calls Tryz.prog 35 #[.pointer (some ⟨A, 0, none⟩), .int .i64 q, .string d] w fun e w' => e = .returned (.bool false) ∧ Su w' A B cu cn s ∧ Ot A B cu cn w w' := by
  have H : Hid (Su w A B cu cn s) := h
  obtain ⟨c0, c1, c2, c3, c4, c5, c6, c7⟩ := h.cells
  clear h
  cases hz : bz s with
  | false =>
    clear hb
    go_enter Tryz.func35, Tryz.ntmps35
    go_wp2_with fail
    refine (how_any A B cu cn s _ H.out).mono ?_
    rintro e w0 ⟨rfl, rfl⟩
    rw [hz]
    go_wp2
    go_ret
    exact ⟨rfl, H.out, Ot.refl _ _ _ _ _⟩
  | true =>
    by_cases hq : q = s.r
    · have hu : Ns.Re.unpE d.data.toList ≠ 0 := fun e => by unfold setB at hb; rw [hz, decide_eq_true hq, decide_eq_true e] at hb; cases hb
      clear hb
      subst hq
      go_enter Tryz.func35, Tryz.ntmps35
      go_wp2_with fail
      refine (how_any A B cu cn s _ H.out).mono ?_
      rintro e w0 ⟨rfl, rfl⟩
      rw [hz]
      go_wp2_with fail
      refine (Ns.repUnpack_any d _ (by omega)).mono ?_
      rintro e w1 ⟨v, rfl, hv, hb1⟩
      obtain ⟨p1, d1, rfl, -, -⟩ := hv.open
      generalize (Ns.Re.unpR d.data.toList).ents.length = n1 at *
      generalize Ns.Re.unpR d.data.toList = r at *
      generalize Ns.Re.unpE d.data.toList = ue at *
      have HB : Hid (Below w0.heap.size w0 (w1.alloc (Ns.BR r (.slice p1 n1 d1)))) := bup hb1 (below_alloc _ _)
      clear hv hb1 c0 c1 c2 c3 c4 c5 c6 c7
      go_wp2
      go_ret
      exact ⟨rfl, H.out.up HB.out, Ot.of HB.out⟩
    · clear hb
      go_enter Tryz.func35, Tryz.ntmps35
      go_wp2_with fail
      refine (how_any A B cu cn s _ H.out).mono ?_
      rintro e w0 ⟨rfl, rfl⟩
      rw [hz]
      go_wp2
      go_ret
      exact ⟨rfl, H.out, Ot.refl _ _ _ _ _⟩
set_option maxRecDepth 100000 in
set_option maxHeartbeats 1000000 in
theorem settle_yes (q : Int) (d : ByteArray) (A B cu cn : Nat) (s : Sb) (w : World) (h : Su w A B cu cn s) (hT : Po.Tab w) (hq0 : 0 ≤ q ∧ q ≤ 1099511627776) (hL : s.L.length < 64) (hd : d.size ≤ 8192) (hb : setB s q d = true) : Calls Tryz.prog 35 #[.pointer (some ⟨A, 0, none⟩), .int .i64 q, .string d] w fun e w' => e = .returned (.bool true) ∧ Su w' A B cu cn (setS s q d) ∧ Ot A B cu cn w w' := by
  have H : Hid (Su w A B cu cn s) := h
  have HT : Hid (Po.Tab w) := hT
  obtain ⟨c0, c1, c2, c3, c4, c5, c6, c7⟩ := h.cells
  clear h hT
  have hb' := hb
  unfold setB at hb'
  simp only [Bool.and_eq_true, decide_eq_true_eq] at hb'
  obtain ⟨hz, rfl, hu⟩ := hb'
  obtain ⟨x1, x2, -, -, -⟩ := mk_pack (k := 2) (v := 0) (r := s.r) (c := 0) (b := d) (by omega) (by omega) hq0 (by omega) hd
  have hS : setS s s.r d = { s with lt := ⟨#[]⟩, L := s.L ++ [Me.packed (mk 2 0 s.r 0 d)] } := rfl
  rw [hS]
  clear hS
  revert x1
  generalize Me.packed (mk 2 0 s.r 0 d) = pk
  intro x1
  have HP : Hid (Me.packOut (mk 2 0 s.r 0 d) = pk ∧ Me.packErr (mk 2 0 s.r 0 d) = 0) := ⟨x1, x2⟩
  have HL : Hid (s.L.length < 64) := hL
  clear hb hq0 hL x1 x2
  go_enter Tryz.func35, Tryz.ntmps35
  go_wp2_with fail
  refine (how_any A B cu cn s _ H.out).mono ?_
  rintro e w0 ⟨rfl, rfl⟩
  rw [hz]
  go_wp2_with fail
  refine (Ns.repUnpack_any d _ (by omega)).mono ?_
  rintro e w1 ⟨v, rfl, hv, hb1⟩
  rw [hu]
  obtain ⟨p1, d1, rfl, -, -⟩ := hv.open
  generalize (Ns.Re.unpR d.data.toList).ents.length = n1 at *
  generalize Ns.Re.unpR d.data.toList = r at *
  obtain ⟨X, hX⟩ : ∃ X, w1.alloc (Ns.BR r (.slice p1 n1 d1)) = X := ⟨_, rfl⟩
  have HX : Hid (Su X A B cu cn s ∧ Below w0.heap.size w0 X) := by
    have : Below w0.heap.size w0 X := by rw [← hX]; exact bup hb1 (below_alloc _ _)
    exact ⟨H.out.up this, this⟩
  clear hv hb1 c0 c1 c2 c3 c4 c5 c6 c7
  obtain ⟨c0, c1, c2, c3, c4, c5, c6, c7⟩ := HX.out.1.cells
  have g6 := HX.out.1.fr 6
  obtain ⟨Y, hY⟩ : ∃ Y, X.setCell ⟨A, 6, none⟩ (.string ⟨#[]⟩) = Y := ⟨_, rfl⟩
  have HY : Hid (Su Y A B cu cn { s with lt := ⟨#[]⟩ } ∧ Ot A B cu cn w0 Y ∧ Po.Tab Y) := by
    have h1 : Su Y A B cu cn { s with lt := ⟨#[]⟩ } := by rw [← hY]; exact HX.out.1.setL _
    have h2 : Ot A B cu cn w0 Y := by rw [← hY]; exact (Ot.of HX.out.2).trans (Ot.set 6 _)
    exact ⟨h1, h2, h2.tab H.out HT.out⟩
  have HC : Hid (Calls Tryz.prog 27 #[VM (mk 2 0 s.r 0 d) (.slice none 0 0) (.slice none 0 0)] Y fun e w' => e = .returned (.tuple #[.string pk, .int .i64 0]) ∧ Below Y.heap.size Y w') := by
    have := mPack_any (mk 2 0 s.r 0 d) (.slice none 0 0) (.slice none 0 0) Y ⟨.inl ⟨_, _, rfl, rfl⟩, .inl ⟨_, _, rfl, rfl⟩⟩ HY.out.2.2
    rw [HP.out.1, HP.out.2] at this
    exact this
  go_wp2_with fail
  refine HC.out.mono ?_
  rintro e w4 ⟨rfl, hb4⟩
  have H4 : Hid (Su w4 A B cu cn { s with lt := ⟨#[]⟩ } ∧ Ot A B cu cn w0 w4) := ⟨HY.out.1.up hb4, HY.out.2.1.trans (Ot.of hb4)⟩
  clear hb4 c0 c1 c2 c3 c4 c5 c6 c7 g6 hX hY HC
  obtain ⟨c0, c1, c2, c3, c4, c5, c6, c7⟩ := H4.out.1.cells
  dsimp only at c0 c1 c2 c3 c4 c5 c6 c7
  go_wp2_with fail
  refine (Xs.put_any B cu cn 64 false false [] s.L pk _ H4.out.1.inb).mono ?_
  rintro e w5 ⟨rfl, hi, ho⟩
  have hput : Xs.putL false 64 s.L pk = s.L ++ [pk] := by unfold Xs.putL; rw [if_neg (by decide), if_pos HL.out]
  simp only [Bool.false_eq_true, if_false, hput] at hi
  have H5 : Hid (Su w5 A B cu cn { s with lt := ⟨#[]⟩, L := s.L ++ [pk] } ∧ Ot A B cu cn w0 w5) := ⟨H4.out.1.oth hi ho, H4.out.2.trans (Ot.oth ho)⟩
  clear hi ho hput
  go_wp2
  go_ret
  exact ⟨rfl, H5.out⟩
set_option maxRecDepth 100000 in
set_option maxHeartbeats 1000000 in
theorem letter_set {f : Int} (k : Int) (x : ByteArray) (A B cu cn : Nat) (s : Sb) (w : World) (h : Su w A B cu cn s) (hT : Po.Tab w) (hn : Pn.Is s.n f) (hl : letB s k x = true) (ho : (Me.unpM x).o ≠ 0) (hb : setB s (Me.unpM x).o (Me.unpM x).d = true) (hL : s.L.length < 64) : Calls Tryz.prog 12 #[.pointer (some ⟨A, 0, none⟩), .int .i64 k, .string x] w fun e w' => e = .returned (.bool true) ∧ Su w' A B cu cn (setS s (Me.unpM x).o (Me.unpM x).d) ∧ Ot A B cu cn w w' := by
  have H : Hid (Su w A B cu cn s) := h
  have HT : Hid (Po.Tab w) := hT
  have HN : Hid (Pn.Is s.n f) := hn
  obtain ⟨k1, hk1, hk2, hk3⟩ := howk s
  clear h hT hn
  obtain ⟨h1, h2, h3, h4⟩ := letB_iff.1 hl
  have HV : Hid ((0 ≤ (Me.unpM x).o ∧ (Me.unpM x).o ≤ 1099511627776) ∧ (Me.unpM x).d.size ≤ 8192) := (unp_nums h1).2
  have h2' : decide (0 ≤ k ∧ k < s.n) = true := decide_eq_true h2
  have H3 : Hid ((Me.unpM x).k = 2 ∧ (Me.unpM x).cl = s.id ∧ (Me.unpM x).o ≠ 0) := ⟨h3, h4, ho⟩
  clear hl h2 h3 h4 ho
  go_enter Tryz.func12, Tryz.ntmps12
  go_wp2_with fail
  refine (how_any A B cu cn s _ H.out).mono ?_
  rintro e w0 ⟨rfl, rfl⟩
  rw [hk1]
  go_wp2_with fail
  refine (munpack_any x _ HT.out).mono ?_
  rintro e w1 ⟨⟨u, z, rfl, hm⟩, hb1⟩
  obtain ⟨p1, d1, rfl, -, -⟩ := hm.lives.open
  obtain ⟨p2, d2, rfl, -, -⟩ := hm.items.open
  clear hm
  generalize (Me.unpM x).lives.length = n1
  generalize (Me.unpM x).items.length = n2
  obtain ⟨X, hX⟩ : ∃ X, w1.alloc (BM (Me.unpM x) (.slice p1 n1 d1) (.slice p2 n2 d2)) = X := ⟨_, rfl⟩
  have HX : Hid (Su X A B cu cn s ∧ Below w0.heap.size w0 X) := by
    have : Below w0.heap.size w0 X := by rw [← hX]; exact bup hb1 (below_alloc _ _)
    exact ⟨H.out.up this, this⟩
  obtain ⟨q0, q1, q2, q3, q4, q5, q6, q7, q8, q9, q10, q11, q12, q13, q14⟩ := mm_of (heap_alloc_new w1 (BM (Me.unpM x) (.slice p1 n1 d1) (.slice p2 n2 d2)))
  rw [hX] at q0 q1 q2 q3 q4 q5 q6 q7 q8 q9 q10 q11 q12 q13 q14
  obtain ⟨c0, c1, c2, c3, c4, c5, c6, c7⟩ := HX.out.1.cells
  clear hb1
  rw [h1]
  go_wp2_with fail
  refine (isNode_any k A B cu cn s _ HX.out.1 HN.out).mono ?_
  rintro e w4 ⟨rfl, rfl⟩
  rw [h2']
  obtain ⟨h3, h4, ho⟩ := H3.out
  go_wp2
  go_region
  all_goals
    have HD : Hid (Su w4.drew A B cu cn s ∧ Below w0.heap.size w0 w4.drew ∧ Po.Tab w4.drew) := ⟨HX.out.1.up (Below.refl _ _).drew, HX.out.2.drew, tab_up HT.out HX.out.2.drew⟩
    go_wp2_with fail
    refine (settle_yes (Me.unpM x).o (Me.unpM x).d A B cu cn s _ HD.out.1 HD.out.2.2 HV.out.1 hL HV.out.2 hb).mono ?_
    rintro e w6 ⟨rfl, h6, h7⟩
    have H6 : Hid (Su w6 A B cu cn (setS s (Me.unpM x).o (Me.unpM x).d) ∧ Ot A B cu cn w0 w6) := ⟨h6, (Ot.of HD.out.2.1).trans h7⟩
    clear h6 h7
    go_wp2
    go_ret
    exact ⟨rfl, H6.out⟩
set_option maxRecDepth 100000 in
set_option maxHeartbeats 1000000 in
theorem letter_non {f : Int} (k : Int) (x : ByteArray) (A B cu cn : Nat) (s : Sb) (w : World) (h : Su w A B cu cn s) (hT : Po.Tab w) (hn : Pn.Is s.n f) (hl : letB s k x = true) (ho : (Me.unpM x).o ≠ 0) (hb : setB s (Me.unpM x).o (Me.unpM x).d = false) : Calls Tryz.prog 12 #[.pointer (some ⟨A, 0, none⟩), .int .i64 k, .string x] w fun e w' => e = .returned (.bool false) ∧ Su w' A B cu cn s ∧ Ot A B cu cn w w' := by
  have H : Hid (Su w A B cu cn s) := h
  have HT : Hid (Po.Tab w) := hT
  have HN : Hid (Pn.Is s.n f) := hn
  obtain ⟨k1, hk1, hk2, hk3⟩ := howk s
  clear h hT hn
  obtain ⟨h1, h2, h3, h4⟩ := letB_iff.1 hl
  have HV : Hid ((0 ≤ (Me.unpM x).o ∧ (Me.unpM x).o ≤ 1099511627776) ∧ (Me.unpM x).d.size ≤ 8192) := (unp_nums h1).2
  have h2' : decide (0 ≤ k ∧ k < s.n) = true := decide_eq_true h2
  have H3 : Hid ((Me.unpM x).k = 2 ∧ (Me.unpM x).cl = s.id ∧ (Me.unpM x).o ≠ 0) := ⟨h3, h4, ho⟩
  clear hl h2 h3 h4 ho
  go_enter Tryz.func12, Tryz.ntmps12
  go_wp2_with fail
  refine (how_any A B cu cn s _ H.out).mono ?_
  rintro e w0 ⟨rfl, rfl⟩
  rw [hk1]
  go_wp2_with fail
  refine (munpack_any x _ HT.out).mono ?_
  rintro e w1 ⟨⟨u, z, rfl, hm⟩, hb1⟩
  obtain ⟨p1, d1, rfl, -, -⟩ := hm.lives.open
  obtain ⟨p2, d2, rfl, -, -⟩ := hm.items.open
  clear hm
  generalize (Me.unpM x).lives.length = n1
  generalize (Me.unpM x).items.length = n2
  obtain ⟨X, hX⟩ : ∃ X, w1.alloc (BM (Me.unpM x) (.slice p1 n1 d1) (.slice p2 n2 d2)) = X := ⟨_, rfl⟩
  have HX : Hid (Su X A B cu cn s ∧ Below w0.heap.size w0 X) := by
    have : Below w0.heap.size w0 X := by rw [← hX]; exact bup hb1 (below_alloc _ _)
    exact ⟨H.out.up this, this⟩
  obtain ⟨q0, q1, q2, q3, q4, q5, q6, q7, q8, q9, q10, q11, q12, q13, q14⟩ := mm_of (heap_alloc_new w1 (BM (Me.unpM x) (.slice p1 n1 d1) (.slice p2 n2 d2)))
  rw [hX] at q0 q1 q2 q3 q4 q5 q6 q7 q8 q9 q10 q11 q12 q13 q14
  obtain ⟨c0, c1, c2, c3, c4, c5, c6, c7⟩ := HX.out.1.cells
  clear hb1
  rw [h1]
  go_wp2_with fail
  refine (isNode_any k A B cu cn s _ HX.out.1 HN.out).mono ?_
  rintro e w4 ⟨rfl, rfl⟩
  rw [h2']
  obtain ⟨h3, h4, ho⟩ := H3.out
  go_wp2
  go_region
  all_goals
    have HD : Hid (Su w4.drew A B cu cn s ∧ Below w0.heap.size w0 w4.drew ∧ Po.Tab w4.drew) := ⟨HX.out.1.up (Below.refl _ _).drew, HX.out.2.drew, tab_up HT.out HX.out.2.drew⟩
    go_wp2_with fail
    refine (settle_no (Me.unpM x).o (Me.unpM x).d A B cu cn s _ HD.out.1 HV.out.2 hb).mono ?_
    rintro e w6 ⟨rfl, h6, h7⟩
    have H6 : Hid (Su w6 A B cu cn s ∧ Ot A B cu cn w0 w6) := ⟨h6, (Ot.of HD.out.2.1).trans h7⟩
    clear h6 h7
    go_wp2
    go_ret
    exact ⟨rfl, H6.out⟩
end Go.Proofs.YtkdhbjmpjbdobaaGreatDoor
