/-
  answer.fields: a right reply's fields, in a slice of the call's own.
-/
import Derived.Test.YtapjgkhbanpmjaaRAdd
namespace Go.Proofs.Ytapjgkhbanpmjaa
open Go.ChangeShapes Go.WideShapes Go.ChangeAt Go.RowKit Go.Deep
open Ak

/-- The reply's box and the fields so far. -/
def Fr (A n0 b : Nat) (r : Rep) (u : Value) (l : List (Int × ByteArray)) (w0 : World) (v : Value) (w : World) : Prop := w.heap[A]? = some (BR r u) ∧ St n0 b l w0 v w
theorem Fr.step {A n0 b : Nat} {r : Rep} {u : Value} {l : List (Int × ByteArray)} {w0 w w' : World} {v : Value} (h : Fr A n0 b r u l w0 v w) (hb : Below w.heap.size w w') : Fr A n0 b r u l w0 v w' := ⟨block_step h.1 hb, h.2.step hb⟩
theorem Fr.drew {A n0 b : Nat} {r : Rep} {u : Value} {l : List (Int × ByteArray)} {w0 w : World} {v : Value} (h : Fr A n0 b r u l w0 v w) : Fr A n0 b r u l w0 v w.drew := ⟨h.1, ⟨h.2.box, h.2.row, h.2.below.drew, h.2.base, h.2.start⟩⟩
theorem neq_hand (no gen : Int) (w : World) : (binOp .neq 24 (VH no gen) (VH 0 0)).run Try.prog w = .ok (.bool (hnz no gen)) w := by
  unfold hnz
  cases h1 : (no == 0) <;> cases h2 : (gen == 0) <;> go_simp <;> simp [h1, h2]
theorem neq_attr (k l s t : Int) (w : World) : (binOp .neq 26 (VA k l s t) (VA 0 0 0 0)).run Try.prog w = .ok (.bool (Re.anz k l s t)) w := by
  unfold Re.anz
  cases h1 : (k == 0) <;> cases h2 : (l == 0) <;> cases h3 : (s == 0) <;> cases h4 : (t == 0) <;> go_simp <;> simp [h1, h2, h3, h4]
/-- What a drawn region holds on to: some cells of the box, and the box. -/
def Held (A : Nat) (cs : List (Nat × Value)) (o : Obj) (w : World) : Prop := (∀ x ∈ cs, w.cell? ⟨A, x.1, none⟩ = some x.2) ∧ w.heap[A]? = some o
theorem held2_below {A i j : Nat} {x y : Value} {o : Obj} {w w' : World} (h : w.cell? ⟨A, i, none⟩ = some x ∧ w.cell? ⟨A, j, none⟩ = some y ∧ w.heap[A]? = some o) (hb : Below w.heap.size w w') :
    w'.cell? ⟨A, i, none⟩ = some x ∧ w'.cell? ⟨A, j, none⟩ = some y ∧ w'.heap[A]? = some o := ⟨cell_step h.1 hb, cell_step h.2.1 hb, block_step h.2.2 hb⟩
theorem held2_others {A b i j : Nat} {x y : Value} {r : Rep} {u : Value} {w w' : World} (hne : A ≠ b) (h : w.cell? ⟨A, i, none⟩ = some x ∧ w.cell? ⟨A, j, none⟩ = some y ∧ w.heap[A]? = some (BR r u)) (ho : Others b w w') :
    w'.cell? ⟨A, i, none⟩ = some x ∧ w'.cell? ⟨A, j, none⟩ = some y ∧ w'.heap[A]? = some (BR r u) := by
  have h3 := ho A _ _ (by decide) hne h.2.2
  have e : w'.heap[A]? = w.heap[A]? := h3.trans h.2.2.symm
  exact ⟨by simp only [World.cell?, e]; exact h.1, by simp only [World.cell?, e]; exact h.2.1, h3⟩
theorem held4_below {A : Nat} {x0 x1 x2 x3 : Value} {o : Obj} {w w' : World} (h : w.cell? ⟨A, 3, none⟩ = some x0 ∧ w.cell? ⟨A, 4, none⟩ = some x1 ∧ w.cell? ⟨A, 5, none⟩ = some x2 ∧ w.cell? ⟨A, 6, none⟩ = some x3 ∧ w.heap[A]? = some o) (hb : Below w.heap.size w w') :
    w'.cell? ⟨A, 3, none⟩ = some x0 ∧ w'.cell? ⟨A, 4, none⟩ = some x1 ∧ w'.cell? ⟨A, 5, none⟩ = some x2 ∧ w'.cell? ⟨A, 6, none⟩ = some x3 ∧ w'.heap[A]? = some o := ⟨cell_step h.1 hb, cell_step h.2.1 hb, cell_step h.2.2.1 hb, cell_step h.2.2.2.1 hb, block_step h.2.2.2.2 hb⟩
theorem held4_others {A b : Nat} {x0 x1 x2 x3 : Value} {r : Rep} {u : Value} {w w' : World} (hne : A ≠ b) (h : w.cell? ⟨A, 3, none⟩ = some x0 ∧ w.cell? ⟨A, 4, none⟩ = some x1 ∧ w.cell? ⟨A, 5, none⟩ = some x2 ∧ w.cell? ⟨A, 6, none⟩ = some x3 ∧ w.heap[A]? = some (BR r u)) (ho : Others b w w') :
    w'.cell? ⟨A, 3, none⟩ = some x0 ∧ w'.cell? ⟨A, 4, none⟩ = some x1 ∧ w'.cell? ⟨A, 5, none⟩ = some x2 ∧ w'.cell? ⟨A, 6, none⟩ = some x3 ∧ w'.heap[A]? = some (BR r u) := by
  have h3 := ho A _ _ (by decide) hne h.2.2.2.2
  have e : w'.heap[A]? = w.heap[A]? := h3.trans h.2.2.2.2.symm
  exact ⟨by simp only [World.cell?, e]; exact h.1, by simp only [World.cell?, e]; exact h.2.1, by simp only [World.cell?, e]; exact h.2.2.1, by simp only [World.cell?, e]; exact h.2.2.2.1, h3⟩
theorem len_opt (l : List (Int × ByteArray)) (b : Bool) (y : Int × ByteArray) : (l ++ opt b y).length ≤ l.length + 1 := by
  unfold opt
  cases b <;> simp
theorem lens (r : Rep) : ([] : List (Int × ByteArray)).length ≤ 1000 ∧ (Re.f1 r).length ≤ 1000 ∧ (Re.f2 r).length ≤ 1000 ∧ (Re.f3 r).length ≤ 1000 ∧ (Re.f4 r).length ≤ 4 := by
  have h1 : (Re.f1 r).length ≤ 0 + 1 := len_opt [] _ _
  have h2 : (Re.f2 r).length ≤ (Re.f1 r).length + 1 := len_opt _ _ _
  have h3 : (Re.f3 r).length ≤ (Re.f2 r).length + 1 := len_opt _ _ _
  have h4 : (Re.f4 r).length ≤ (Re.f3 r).length + 1 := len_opt _ _ _
  simp only [List.length_nil]
  omega
theorem ef_take {l : List Ent} {k : Nat} {x : Ent} (h : l[k]? = some x) : Re.ef (l.take (k + 1)) = Re.ef (l.take k) ++ opt true (5, Re.ebytes x) := by
  obtain ⟨hk, rfl⟩ := List.getElem?_eq_some_iff.1 h
  rw [List.take_succ_eq_append_getElem hk]
  unfold Re.ef opt
  rw [List.map_append]
  rfl
set_option maxRecDepth 100000 in
set_option maxHeartbeats 8000000 in
theorem fields_any (r : Rep) (u : Value) (w : World) (hr : Re.rightP r) (hv : AtW EE w u r.ents) :
    Calls Try.prog 15 #[VR r u] w fun e w' => ∃ v, e = .returned v ∧ FieldsAt w'.heap.size w' v (Re.fields r) ∧ Below w.heap.size w w' := by
  have HH : Hid (r.no ≤ 9223372036854775807 ∧ r.gen ≤ 9223372036854775807) := by
    obtain ⟨-, ⟨⟨-, h1⟩, -, h2⟩, -⟩ := hr
    exact ⟨by omega, by omega⟩
  have HN : Hid (r.e ≤ 9223372036854775807 ∧ r.n ≤ 9223372036854775807) := by
    obtain ⟨⟨-, h1⟩, -, -, -, -, -, h2⟩ := hr
    exact ⟨by omega, by omega⟩
  have HT : Hid ((r.s ≤ 9223372036854775807 ∧ r.t ≤ 9223372036854775807) ∧ r.k ≤ 9223372036854775807 ∧ r.l ≤ 9223372036854775807) := by
    have h := At.right_iff.1 hr.2.2.1
    unfold At.rightP at h
    exact ⟨⟨by omega, by omega⟩, by omega, by omega⟩
  have HM : Hid (r.ents.length ≤ 64 ∧ ∀ x ∈ r.ents, (1 ≤ x.2.1 ∧ x.2.1 ≤ 1099511627776) ∧ Nm.ok x.1 ∧ hokP x.2.2.1 x.2.2.2) := ⟨hr.2.2.2.2.1.1, Re.entsP_mem hr.2.2.2.2.1.2 (Int.le_refl 0)⟩
  have hv0 := hv
  obtain ⟨ao, cap, rfl, hm, hx⟩ := hv0.open
  clear hv0 hv hm
  obtain ⟨z, hz⟩ : ∃ z, r.ents.length = z := ⟨_, rfl⟩
  have hz64 : z ≤ 64 := by rw [← hz]; exact HM.out.1
  rw [hz] at ⊢
  have HZ : Hid (r.ents.length = z) := hz
  have HX : Hid (∀ i x, r.ents[i]? = some x → ∃ b off, ao = some ⟨b, off, none⟩ ∧ True ∧ b < w.heap.size ∧ ∀ k u, (EE.cells x)[k]? = some u → w.cell? ⟨b, off + (i * EE.sz + k), none⟩ = some u) := hx
  clear hr hz hx
  have HF0 : Hid (Fr w.heap.size w.heap.size (w.heap.size + 1) r (.slice ao z cap) [] w (.slice none 0 0) ((w.alloc (BR r (.slice ao z cap))).alloc (.cells #[.slice none 0 0] 45))) := by
    refine ⟨(Below.heap_alloc _ _ _ (by simp)).trans (heap_alloc_new w _), ?_, World.ownsRow_nil _ _ _ _, ((Below.refl _ _).alloc (Nat.le_refl _) _).alloc (by simp) _, by omega, Nat.le_refl _⟩
    have := Boxed.new (w.alloc (BR r (.slice ao z cap))) 45 (.slice none 0 0)
    rw [World.size_alloc] at this
    exact this
  have HNE : Hid (w.heap.size ≠ w.heap.size + 1) := by show _ ≠ _; omega
  go_enter Try.func15, Try.ntmps15
  go_wp2_with fail
  generalize (w.alloc (BR r (.slice ao z cap))).alloc (.cells #[.slice none 0 0] 45) = W at *
  generalize w.heap.size + 1 = b at *
  obtain ⟨A, hA⟩ : ∃ A, w.heap.size = A := ⟨_, rfl⟩
  rw [hA] at HF0 HNE HX ⊢
  have HAA : Hid (w.heap.size = A) := hA
  clear hA
  have HC0 : Hid (W.cell? ⟨A, 0, none⟩ = some (.int .i64 r.e) ∧ W.cell? ⟨A, 0, none⟩ = some (.int .i64 r.e) ∧ W.heap[A]? = some (BR r (.slice ao z cap))) := ⟨(ten_of HF0.out.1).1, (ten_of HF0.out.1).1, HF0.out.1⟩
  go_region_held3 (fun w' => w'.cell? ⟨A, 0, none⟩ = some (.int .i64 r.e) ∧ w'.cell? ⟨A, 0, none⟩ = some (.int .i64 r.e) ∧ w'.heap[A]? = some (BR r (.slice ao z cap))) (first | exact HC0.out | assumption | exact held2_below (by assumption) (by assumption) | exact held2_others HNE.out (by assumption) (by assumption)) (first
    | (go_at_call 36; refine (num_s r.e 2 _ HN.out.1).mono ?_; rintro e x0 ⟨rfl, hb0⟩)
    | (go_at_call 35; refine (add_any (r.e != 0) 1 (Pl.numOut r.e 2) A b ([]) w (.slice none 0 0) _ (HF0.out.drew.step hb0).2 (lens r).1).mono ?_; rintro e w1 ⟨rfl, v1, hst1, ho1⟩))
  have HF1 : Hid (Fr A A b r (.slice ao z cap) (Re.f1 r) w v1 w1) := ⟨ho1 A _ _ (by decide) HNE.out (HF0.out.drew.step hb0).1, hst1⟩
  clear hst1 ho1 hb0 HC0 HF0
  go_wp2_with fail
  have HC1 : Hid (w1.cell? ⟨A, 1, none⟩ = some (.int .i64 r.no) ∧ w1.cell? ⟨A, 2, none⟩ = some (.int .i64 r.gen) ∧ w1.heap[A]? = some (BR r (.slice ao z cap))) := ⟨(ten_of HF1.out.1).2.1, (ten_of HF1.out.1).2.2.1, HF1.out.1⟩
  have hng1 : ∀ w', (binOp .neq 24 (VH r.no r.gen) (VH 0 0)).run Try.prog w' = .ok (.bool (hnz r.no r.gen)) w' := neq_hand _ _
  go_region_held3 (fun w' => w'.cell? ⟨A, 1, none⟩ = some (.int .i64 r.no) ∧ w'.cell? ⟨A, 2, none⟩ = some (.int .i64 r.gen) ∧ w'.heap[A]? = some (BR r (.slice ao z cap))) (first | exact HC1.out | assumption | exact held2_below (by assumption) (by assumption) | exact held2_others HNE.out (by assumption) (by assumption)) (first
    | (go_at_call 37; refine (packHandle_any r.no r.gen _ HH.out.1 HH.out.2).mono ?_; rintro e x1 ⟨rfl, hb1⟩)
    | (go_at_call 35; refine (add_any (hnz r.no r.gen) 2 (hbytes r.no r.gen) A b (Re.f1 r) w v1 _ (HF1.out.drew.step hb1).2 (lens r).2.1).mono ?_; rintro e w2 ⟨rfl, v2, hst2, ho2⟩))
  have HF2 : Hid (Fr A A b r (.slice ao z cap) (Re.f2 r) w v2 w2) := ⟨ho2 A _ _ (by decide) HNE.out (HF1.out.drew.step hb1).1, hst2⟩
  clear hst2 ho2 hb1 HC1 HF1
  clear hng1
  go_wp2_with fail
  have HC2 : Hid (w2.cell? ⟨A, 3, none⟩ = some (.int .i64 r.k) ∧ w2.cell? ⟨A, 4, none⟩ = some (.int .i64 r.l) ∧ w2.cell? ⟨A, 5, none⟩ = some (.int .i64 r.s) ∧ w2.cell? ⟨A, 6, none⟩ = some (.int .i64 r.t) ∧ w2.heap[A]? = some (BR r (.slice ao z cap))) := ⟨(ten_of HF2.out.1).2.2.2.1, (ten_of HF2.out.1).2.2.2.2.1, (ten_of HF2.out.1).2.2.2.2.2.1, (ten_of HF2.out.1).2.2.2.2.2.2.1, HF2.out.1⟩
  have hng2 : ∀ w', (binOp .neq 26 (VA r.k r.l r.s r.t) (VA 0 0 0 0)).run Try.prog w' = .ok (.bool (Re.anz r.k r.l r.s r.t)) w' := neq_attr _ _ _ _
  go_region_held3 (fun w' => w'.cell? ⟨A, 3, none⟩ = some (.int .i64 r.k) ∧ w'.cell? ⟨A, 4, none⟩ = some (.int .i64 r.l) ∧ w'.cell? ⟨A, 5, none⟩ = some (.int .i64 r.s) ∧ w'.cell? ⟨A, 6, none⟩ = some (.int .i64 r.t) ∧ w'.heap[A]? = some (BR r (.slice ao z cap))) (first | exact HC2.out | assumption | exact held4_below (by assumption) (by assumption) | exact held4_others HNE.out (by assumption) (by assumption)) (first
    | (go_at_call 38; refine (packAttr_any r.k r.l r.s r.t _ HT.out.1.1 HT.out.1.2 HT.out.2.1 HT.out.2.2).mono ?_; rintro e x2 ⟨rfl, hb2⟩)
    | (go_at_call 35; refine (add_any (Re.anz r.k r.l r.s r.t) 3 (At.packOut r.k r.l r.s r.t) A b (Re.f2 r) w v2 _ (HF2.out.drew.step hb2).2 (lens r).2.2.1).mono ?_; rintro e w3 ⟨rfl, v3, hst3, ho3⟩))
  have HF3 : Hid (Fr A A b r (.slice ao z cap) (Re.f3 r) w v3 w3) := ⟨ho3 A _ _ (by decide) HNE.out (HF2.out.drew.step hb2).1, hst3⟩
  clear hst3 ho3 hb2 HC2 HF2
  clear hng2
  have c3 : w3.cell? ⟨A, 7, none⟩ = some (.string r.data) := (ten_of HF3.out.1).2.2.2.2.2.2.2.1
  go_wp2_with fail
  refine (add_any (!r.data.toList.isEmpty) 4 r.data A b (Re.f3 r) w v3 _ HF3.out.2 (lens r).2.2.2.1).mono ?_
  rintro e w4 ⟨rfl, v4, hst4, ho4⟩
  have HF4 : Hid (Fr A A b r (.slice ao z cap) (Re.f4 r) w v4 w4) := ⟨ho4 A _ _ (by decide) HNE.out HF3.out.1, hst4⟩
  clear hst4 ho4 c3 HF3
  have c4 : w4.cell? ⟨A, 8, none⟩ = some (.slice ao z cap) := (ten_of HF4.out.1).2.2.2.2.2.2.2.2.1
  have HL4 : Hid ((Re.f4 r).length ≤ 4) := (lens r).2.2.2.2
  go_wp2_with fail
  clear c4
  go_loopw [44] (fun i wr => ∃ (k : Nat) (v : Value), k ≤ z ∧ i = .int .i64 k ∧ Hid (Fr A A b r (.slice ao z cap) (Re.f4 r ++ Re.ef (r.ents.take k)) w v wr)) (fun i _ => z - (intOf i).toNat)
  case atStart => exact ⟨0, v4, Nat.zero_le _, rfl, by show Fr A A b r (.slice ao z cap) (Re.f4 r ++ Re.ef (r.ents.take 0)) w v4 w4; simpa [Re.ef] using HF4.out⟩
  case round =>
    obtain ⟨k, v, hk, rfl, HF⟩ := hrel
    by_cases hlt : k < z
    · obtain ⟨x, hxk⟩ : ∃ x, r.ents[k]? = some x := ⟨_, List.getElem?_eq_getElem (by rw [HZ.out]; exact hlt)⟩
      have HE : Hid (Re.ef (r.ents.take (k + 1)) = Re.ef (r.ents.take k) ++ opt true (5, Re.ebytes x)) := ef_take hxk
      have HXM : Hid ((1 ≤ x.2.1 ∧ x.2.1 ≤ 1099511627776) ∧ Nm.ok x.1 ∧ hokP x.2.2.1 x.2.2.2) := HM.out.2 x (List.mem_of_getElem? hxk)
      have HLK : Hid ((Re.f4 r ++ Re.ef (r.ents.take k)).length ≤ 1000) := by
        have h1 := HL4.out
        show (Re.f4 r ++ Re.ef (r.ents.take k)).length ≤ 1000
        simp only [List.length_append, Re.ef, List.length_map, List.length_take]
        omega
      obtain ⟨bb, off, rfl, -, hB, hcx⟩ := HX.out k x hxk
      obtain ⟨c0, c1, c2, c3⟩ := four_at hcx HF.out.2.below hB
      clear hcx hxk
      have hlt' : (k : Int) < (z : Int) := by omega
      go_wp2_with fail
      refine (packEntry_any x _ (by have := HXM.out.1; omega) (by have := HXM.out.2.2.1; omega) (by have := HXM.out.2.2.2; omega) (by have := Re.ok_size HXM.out.2.1; omega)).mono ?_
      rintro e x5 ⟨rfl, hb5⟩
      have HF5 : Hid (Fr A A b r (.slice (some ⟨bb, off, none⟩) z cap) (Re.f4 r ++ Re.ef (r.ents.take k)) w v x5) := (HF.out.step ((Below.refl _ _).alloc (Nat.le_refl _) _)).step hb5
      clear hb5 c0 c1 c2 c3
      go_wp2_with fail
      refine (add_any true 5 (Re.ebytes x) A b _ w v _ HF5.out.2 HLK.out).mono ?_
      rintro e w6 ⟨rfl, v6, hst6, ho6⟩
      have HF6 : Hid (Fr A A b r (.slice (some ⟨bb, off, none⟩) z cap) (Re.f4 r ++ Re.ef (r.ents.take (k + 1))) w v6 w6) := ⟨ho6 A _ _ (by decide) HNE.out HF5.out.1, by rw [HE.out, ← List.append_assoc]; exact hst6⟩
      clear hst6 ho6
      go_wp2
      go_roundw
      case rel => exact ⟨k + 1, v6, by omega, by go_num, HF6.out⟩
      case measure => simp [intOf]; omega
    · obtain rfl : k = z := by omega
      have HF5 : Hid (Fr A A b r (.slice ao k cap) (Re.f5 r) w v wr) := by
        have := HF.out
        rw [List.take_of_length_le (by rw [HZ.out]; exact Nat.le_refl _)] at this
        exact this
      have HL5 : Hid ((Re.f5 r).length ≤ 1000) := by
        have h1 := HL4.out
        have h2 := HZ.out
        show (Re.f5 r).length ≤ 1000
        simp only [Re.f5, List.length_append, Re.ef, List.length_map]
        omega
      clear HF HF4
      have hlt' : ¬ (k : Int) < (k : Int) := by omega
      go_wp2_with fail
      have HC5 : Hid (wr.cell? ⟨A, 9, none⟩ = some (.int .i64 r.n) ∧ wr.cell? ⟨A, 9, none⟩ = some (.int .i64 r.n) ∧ wr.heap[A]? = some (BR r (.slice ao k cap))) := ⟨(ten_of HF5.out.1).2.2.2.2.2.2.2.2.2, (ten_of HF5.out.1).2.2.2.2.2.2.2.2.2, HF5.out.1⟩
      go_region_held3 (fun w' => w'.cell? ⟨A, 9, none⟩ = some (.int .i64 r.n) ∧ w'.cell? ⟨A, 9, none⟩ = some (.int .i64 r.n) ∧ w'.heap[A]? = some (BR r (.slice ao k cap))) (first | exact HC5.out | assumption | exact held2_below (by assumption) (by assumption) | exact held2_others HNE.out (by assumption) (by assumption)) (first
        | (go_at_call 36; refine (num_s r.n 6 _ HN.out.2).mono ?_; rintro e x5 ⟨rfl, hb5⟩)
        | (go_at_call 35; refine (add_any (r.n != 0) 6 (Pl.numOut r.n 6) A b (Re.f5 r) w v _ (HF5.out.drew.step hb5).2 HL5.out).mono ?_; rintro e w6 ⟨rfl, v6, hst6, ho6⟩))
      have HF6 : Hid (Fr A A b r (.slice ao k cap) (Re.fields r) w v6 w6) := ⟨ho6 A _ _ (by decide) HNE.out (HF5.out.drew.step hb5).1, hst6⟩
      clear hst6 ho6 hb5 HC5 HF5
      have c8 := HF6.out.2.box.cell
      go_wp2
      go_ret
      refine ⟨_, rfl, HF6.out.2.fields, ?_⟩
      rw [HAA.out]
      exact HF6.out.2.below
end Go.Proofs.Ytapjgkhbanpmjaa
