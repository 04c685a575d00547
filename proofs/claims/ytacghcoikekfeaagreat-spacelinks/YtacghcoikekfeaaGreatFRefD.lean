/-
  The document's answer: sextonref10.Add, sextonref10.Remove; the statements' own same.
-/
import Derived.Test.YtacghcoikekfeaaGreatFRefP
import Derived.Test.YtacghcoikekfeaaGreatFRefC
import Derived.Test.YtacghcoikekfeaaGreatFSame
namespace Go.Proofs.YtacghcoikekfeaaGreat
open Go.ChangeShapes Go.WideShapes Go.ChangeAt Go.RowKit Go.Deep
set_option maxRecDepth 100000
abbrev BZF : Obj := .cells #[.slice none 0 0, .int .i64 0] 127
theorem fold_of {w : World} {A : Nat} {v : Value} {n : Int} (h : w.heap[A]? = some (BF v n)) :
    (w.cell? ⟨A, 0, none⟩ = some v ∧ w.cell? ⟨A, 1, none⟩ = some (.int .i64 n)) ∧ ∀ j, w.frozen? ⟨A, j, none⟩ = false := by
  refine ⟨⟨?_, ?_⟩, fun j => ?_⟩ <;> simp [World.cell?, World.frozen?, h]
theorem handb_of {w : World} {A : Nat} {no gen : Int} (h : w.heap[A]? = some (BHf no gen)) : w.cell? ⟨A, 0, none⟩ = some (.int .i64 no) ∧ w.cell? ⟨A, 1, none⟩ = some (.int .i64 gen) := by
  constructor <;> simp [World.cell?, h]
/-- Three boxes that stay. -/
abbrev Bx (n : Nat) (v : Value) (next no gen : Int) (w : World) : Prop := w.heap[n]? = some (BF v next) ∧ w.heap[n + 1]? = some (BHf no gen) ∧ w.heap[n + 2]? = some BZF
theorem Bx.step {n : Nat} {v : Value} {next no gen : Int} {w w' : World} (h : Bx n v next no gen w) (hb : Below w.heap.size w w') : Bx n v next no gen w' :=
  ⟨(hb.block _ (Array.getElem?_eq_some_iff.1 h.1).1).trans h.1, (hb.block _ (Array.getElem?_eq_some_iff.1 h.2.1).1).trans h.2.1, (hb.block _ (Array.getElem?_eq_some_iff.1 h.2.2).1).trans h.2.2⟩
theorem Bx.off {n : Nat} {v : Value} {next no gen : Int} {w : World} (h : Bx n v next no gen w) : n + 2 < w.heap.size := (Array.getElem?_eq_some_iff.1 h.2.2).1
theorem bx_new (w : World) (v : Value) (next no gen : Int) : Bx w.heap.size v next no gen (((w.alloc (BF v next)).alloc (BHf no gen)).alloc BZF) ∧ Below w.heap.size w (((w.alloc (BF v next)).alloc (BHf no gen)).alloc BZF) := by
  have z1 : (w.alloc (BF v next)).heap.size = w.heap.size + 1 := by simp
  have z2 : ((w.alloc (BF v next)).alloc (BHf no gen)).heap.size = w.heap.size + 2 := by simp
  have h1 := heap_alloc_new w (BF v next)
  have h2 := heap_alloc_new (w.alloc (BF v next)) (BHf no gen)
  have h3 := heap_alloc_new ((w.alloc (BF v next)).alloc (BHf no gen)) BZF
  rw [z1] at h2
  rw [z2] at h3
  exact ⟨⟨(Below.heap_alloc _ _ _ (by omega)).trans ((Below.heap_alloc _ _ _ (by omega)).trans h1), (Below.heap_alloc _ _ _ (by omega)).trans h2, h3⟩, (((Below.refl _ w).alloc (Nat.le_refl _) _).alloc (by simp) _).alloc (by simp; omega) _⟩
set_option maxHeartbeats 4000000 in
theorem radd_any (v : Value) (l : List Ent) (next : Int) (s : ByteArray) (no gen : Int) (w : World) (hv : AtW EE w v l) (hs : ∀ x ∈ l, x.1.size ≤ maxLen) (hn : s.size ≤ maxLen) :
    Calls Tryz.prog 88 #[VD v next, .string s, VHf no gen] w fun e w' => ∃ u, e = .returned (.tuple #[VD u (if Fo.addErr l next s no gen = 0 then next + 1 else 0), .int .i64 (Fo.addErr l next s no gen)]) ∧
      At EE (fun b => w.heap.size ≤ b) w' u (if Fo.addErr l next s no gen = 0 then l ++ [(s, next + 1, no, gen)] else []) ∧ Below w.heap.size w w' := by
  have hv0 := hv
  obtain ⟨ao, cap, rfl, hm, -⟩ := hv0.open
  clear hv0
  unfold maxLen at hm
  obtain ⟨m, hlm⟩ : ∃ m, l.length = m := ⟨_, rfl⟩
  rw [hlm] at hm hv ⊢
  have HLM : Hid (l.length = m) := hlm
  clear hlm
  obtain ⟨W, hW⟩ : ∃ W, W = ((w.alloc (BF (.slice ao m cap) next)).alloc (BHf no gen)).alloc BZF := ⟨_, rfl⟩
  obtain ⟨HX0, HB0⟩ : Hid (Bx w.heap.size (.slice ao m cap) next no gen W) ∧ Hid (Below w.heap.size w W) := by rw [hW]; exact bx_new w _ next no gen
  have HV : Hid (AtW EE W (.slice ao m cap) l) := hv.up HB0.out
  have HS : Hid (∀ x ∈ l, x.1.size ≤ maxLen) := hs
  have HNN : Hid (s.size ≤ maxLen) := hn
  obtain ⟨⟨x0, x1⟩, -⟩ := fold_of HX0.out.1
  clear hv hs hn
  rcases Fo.ask_or l next s with ⟨ha, hrt, -⟩ | ⟨ha, -⟩ | ⟨ha, -, -⟩
  · have HA : Hid (Fo.ask l next s = 0) := ha
    by_cases ho : Ho no gen
    · have HD : Hid (decide (Ho no gen) = true) := decide_eq_true ho
      rcases Fo.at_or (Fo.called s) l with ⟨ht, -⟩ | ⟨k, x, ht, -, -, -⟩
      · have HT : Hid (Fo.at' (Fo.called s) l = -1) := ht
        by_cases hx : next = 1099511627776
        · have hE : Fo.addErr l next s no gen = 407 := Fo.add_full ha ho ht hx
          rw [hE, if_neg (by decide), if_neg (by decide)]
          have hx' : (next == 1099511627776) = true := by simp [hx]
          clear ha ho ht hx hrt hE
          go_enter Tryz.func88, Tryz.ntmps88
          go_wp2_with fail
          rw [← hW]
          refine (asked_any _ l next s _ HV.out HS.out HNN.out).mono ?_
          rintro e w1 ⟨rfl, hb⟩
          rw [HA.out]
          have HB1 : Hid (Below w.heap.size w w1) := HB0.out.trans (hb.mono HB0.out.size)
          have HX1 : Hid (Bx w.heap.size (.slice ao m cap) next no gen w1) := HX0.out.step hb
          have HV1 : Hid (AtW EE w1 (.slice ao m cap) l) := HV.out.up hb
          clear hb hW x0 x1
          obtain ⟨k0, k1⟩ := handb_of HX1.out.2.1
          go_wp2_with fail
          refine (rto_any no gen _).mono ?_
          rintro e w2 ⟨rfl, hw2⟩
          rw [HD.out]
          have hb2 : Below w1.heap.size w1 w2 := by rw [hw2]; exact (Below.refl _ _).alloc (Nat.le_refl _) _
          have HB2 : Hid (Below w.heap.size w w2) := HB1.out.trans (hb2.mono HB1.out.size)
          have HX2 : Hid (Bx w.heap.size (.slice ao m cap) next no gen w2) := HX1.out.step hb2
          have HV2 : Hid (AtW EE w2 (.slice ao m cap) l) := HV1.out.up hb2
          clear hb2 hw2 k0 k1
          obtain ⟨⟨y0, y1⟩, -⟩ := fold_of HX2.out.1
          go_wp2_with fail
          refine (rplace_any _ l s _ HV2.out).mono ?_
          rintro e w3 ⟨rfl, hb⟩
          rw [HT.out]
          have HB3 : Hid (Below w.heap.size w w3) := HB2.out.trans (hb.mono HB2.out.size)
          have HX3 : Hid (Bx w.heap.size (.slice ao m cap) next no gen w3) := HX2.out.step hb
          have HV3 : Hid (AtW EE w3 (.slice ao m cap) l) := HV2.out.up hb
          clear hb y0 y1
          obtain ⟨⟨z0, z1⟩, -⟩ := fold_of HX3.out.1
          obtain ⟨⟨r0, r1⟩, rf⟩ := fold_of (v := .slice none 0 0) (n := 0) HX3.out.2.2
          go_wp2
          (try simp only [Exit.inBlock, Exit.then])
          refine bodyPost_ret (v := .tuple #[VD (.slice none 0 0) 0, .int .i64 407]) ?_ rfl ⟨.slice none 0 0, rfl, At.nil, ?_⟩
          · rw [results_cell_tmp rfl]
            go_simp
          · repeat (refine Below.setCell ?_ (by simp; omega) _)
            exact HB3.out
        · have hE : Fo.addErr l next s no gen = 0 := Fo.add_ok ha ho ht hx
          rw [hE, if_pos rfl, if_pos rfl]
          have hx' : (next == 1099511627776) = false := by simp [hx]
          have hnx : 0 ≤ next ∧ next ≤ 1099511627776 := hrt.1
          obtain ⟨hn0, hn1⟩ := hnx
          have HLEN : Hid (l.length ≤ 1099511627776) := by
            have := Fo.right_len hrt
            show l.length ≤ 1099511627776
            omega
          obtain ⟨j0, hj, hy0, hy1, hy2⟩ := info_parts finfoE
          clear ha ho ht hx hrt hE
          go_enter Tryz.func88, Tryz.ntmps88
          go_wp2_with fail
          rw [← hW]
          refine (asked_any _ l next s _ HV.out HS.out HNN.out).mono ?_
          rintro e w1 ⟨rfl, hb⟩
          rw [HA.out]
          have HB1 : Hid (Below w.heap.size w w1) := HB0.out.trans (hb.mono HB0.out.size)
          have HX1 : Hid (Bx w.heap.size (.slice ao m cap) next no gen w1) := HX0.out.step hb
          have HV1 : Hid (AtW EE w1 (.slice ao m cap) l) := HV.out.up hb
          clear hb hW x0 x1
          obtain ⟨k0, k1⟩ := handb_of HX1.out.2.1
          go_wp2_with fail
          refine (rto_any no gen _).mono ?_
          rintro e w2 ⟨rfl, hw2⟩
          rw [HD.out]
          have hb2 : Below w1.heap.size w1 w2 := by rw [hw2]; exact (Below.refl _ _).alloc (Nat.le_refl _) _
          have HB2 : Hid (Below w.heap.size w w2) := HB1.out.trans (hb2.mono HB1.out.size)
          have HX2 : Hid (Bx w.heap.size (.slice ao m cap) next no gen w2) := HX1.out.step hb2
          have HV2 : Hid (AtW EE w2 (.slice ao m cap) l) := HV1.out.up hb2
          clear hb2 hw2 k0 k1
          obtain ⟨⟨y0, y1⟩, -⟩ := fold_of HX2.out.1
          go_wp2_with fail
          refine (rplace_any _ l s _ HV2.out).mono ?_
          rintro e w3 ⟨rfl, hb⟩
          rw [HT.out]
          have HB3 : Hid (Below w.heap.size w w3) := HB2.out.trans (hb.mono HB2.out.size)
          have HX3 : Hid (Bx w.heap.size (.slice ao m cap) next no gen w3) := HX2.out.step hb
          have HV3 : Hid (AtW EE w3 (.slice ao m cap) l) := HV2.out.up hb
          clear hb y0 y1
          obtain ⟨⟨z0, z1⟩, -⟩ := fold_of HX3.out.1
          have hs3 := HB3.out.size
          have ho3 := HX3.out.off
          have HRN : Hid (Row EE w3 w3.heap.size 69 (.slice none 0 0) []) := Row.nil _ _ _ _
          go_wp2_with (first
            | (at_builtin; refine wpList_row _ rfl _ _ 63 rfl EE (fun _ => True) w3.heap.size 69 j0 _ 40 Tryz.underlying63 hj hy0 hy1 hy2 rfl _ [] rfl HRN.out _ l rfl HV3.out (by have := HLEN.out; unfold maxLen; simp only [List.length_nil]; omega) (by have := HLEN.out; simp only [List.length_nil]; omega) (Nat.le_refl _) ?_; intro v7 w7 hrow7 hg7 hloc7; have HB7 : Hid (Below w3.heap.size w3 w7) := (Below.refl _ _).grown hg7 (Nat.le_refl _) (fun k hk => by cases hk); have HX7 : Hid (Bx w.heap.size (.slice ao m cap) next no gen w7) := HX3.out.step HB7.out; have hk23 := handb_of HX7.out.2.1; have k2 := hk23.1; have k3 := hk23.2; have hz23 := (fold_of HX7.out.1).1; have z2 := hz23.1; have z3 := hz23.2; have HR8 : Hid (Row EE (w7.alloc (BE (s, next + 1, no, gen))) w3.heap.size 69 v7 l) := Row.up (show Row EE w7 w3.heap.size 69 v7 l from by simpa using hrow7) ((Below.refl _ _).alloc (Nat.le_refl _) _); have HO8 : Hid (AtW EE (w7.alloc (BE (s, next + 1, no, gen))) (.slice (some ⟨w7.heap.size, 0, none⟩) 1 1) [(s, next + 1, no, gen)]) := at_one (heap_alloc_new w7 _); have hs7 := HB7.out.size; clear hrow7 hg7 hloc7 hk23 hz23 z0 z1)
            | (at_builtin; refine wpList_row _ rfl _ _ 63 rfl EE (fun _ => True) w3.heap.size 69 j0 _ 40 Tryz.underlying63 hj hy0 hy1 hy2 rfl _ l rfl HR8.out _ [(s, next + 1, no, gen)] rfl HO8.out (by have := HLEN.out; unfold maxLen; simp only [List.length_cons, List.length_nil]; omega) (by have := HLEN.out; simp only [List.length_cons, List.length_nil]; omega) (by simp; omega) ?_; intro v8 w8 hrow8 hg8 hloc8; have HB8 : Hid (Below w3.heap.size w3 w8) := (HB7.out.alloc hs7 _).grown hg8 (by simp; omega) (fun k hk => (HR8.out.lt k hk).1); have HX8 : Hid (Bx w.heap.size (.slice ao m cap) next no gen w8) := HX3.out.step HB8.out; have hf8 := fold_of HX8.out.1; have z4 := hf8.1.1; have z5 := hf8.1.2; have hr8 := fold_of (v := .slice none 0 0) (n := 0) HX8.out.2.2; have r0 := hr8.1.1; have r1 := hr8.1.2; have rf := hr8.2; have HR9 : Hid (Row EE w8 w3.heap.size 69 v8 (l ++ [(s, next + 1, no, gen)])) := hrow8; obtain ⟨p8, n8, c8, hv8⟩ := hrow8.slice3; subst hv8; clear hrow8 hg8 hloc8 hf8 hr8 k2 k3 z2 z3))
          (try simp only [Exit.inBlock, Exit.then])
          refine bodyPost_ret (v := .tuple #[VD (.slice p8 n8 c8) (next + 1), .int .i64 0]) ?_ rfl ⟨.slice p8 n8 c8, rfl, ?_, ?_⟩
          · rw [results_cell_tmp rfl]
            go_simp
          · refine At.imp (S := fun b => w3.heap.size ≤ b) ?_ (fun b hb _ => by omega)
            repeat (refine At.setCellF ?_ (by simp; omega) _)
            exact HR9.out.at
          · repeat (refine Below.setCell ?_ (by simp; omega) _)
            exact HB3.out.trans (HB8.out.mono hs3)
      · have hE : Fo.addErr l next s no gen = 403 := Fo.add_has ha ho ht
        have HT : Hid (Fo.at' (Fo.called s) l = k) := ht
        rw [hE, if_neg (by decide), if_neg (by decide)]
        clear ha ho ht hrt hE
        go_enter Tryz.func88, Tryz.ntmps88
        go_wp2_with fail
        rw [← hW]
        refine (asked_any _ l next s _ HV.out HS.out HNN.out).mono ?_
        rintro e w1 ⟨rfl, hb⟩
        rw [HA.out]
        have HB1 : Hid (Below w.heap.size w w1) := HB0.out.trans (hb.mono HB0.out.size)
        have HX1 : Hid (Bx w.heap.size (.slice ao m cap) next no gen w1) := HX0.out.step hb
        have HV1 : Hid (AtW EE w1 (.slice ao m cap) l) := HV.out.up hb
        clear hb hW x0 x1
        obtain ⟨k0, k1⟩ := handb_of HX1.out.2.1
        go_wp2_with fail
        refine (rto_any no gen _).mono ?_
        rintro e w2 ⟨rfl, hw2⟩
        rw [HD.out]
        have hb2 : Below w1.heap.size w1 w2 := by rw [hw2]; exact (Below.refl _ _).alloc (Nat.le_refl _) _
        have HB2 : Hid (Below w.heap.size w w2) := HB1.out.trans (hb2.mono HB1.out.size)
        have HX2 : Hid (Bx w.heap.size (.slice ao m cap) next no gen w2) := HX1.out.step hb2
        have HV2 : Hid (AtW EE w2 (.slice ao m cap) l) := HV1.out.up hb2
        clear hb2 hw2 k0 k1
        obtain ⟨⟨y0, y1⟩, -⟩ := fold_of HX2.out.1
        go_wp2_with fail
        refine (rplace_any _ l s _ HV2.out).mono ?_
        rintro e w3 ⟨rfl, hb⟩
        rw [HT.out]
        have HB3 : Hid (Below w.heap.size w w3) := HB2.out.trans (hb.mono HB2.out.size)
        have HX3 : Hid (Bx w.heap.size (.slice ao m cap) next no gen w3) := HX2.out.step hb
        have HV3 : Hid (AtW EE w3 (.slice ao m cap) l) := HV2.out.up hb
        clear hb y0 y1
        obtain ⟨⟨z0, z1⟩, -⟩ := fold_of HX3.out.1
        obtain ⟨⟨r0, r1⟩, rf⟩ := fold_of (v := .slice none 0 0) (n := 0) HX3.out.2.2
        go_wp2
        (try simp only [Exit.inBlock, Exit.then])
        refine bodyPost_ret (v := .tuple #[VD (.slice none 0 0) 0, .int .i64 403]) ?_ rfl ⟨.slice none 0 0, rfl, At.nil, ?_⟩
        · rw [results_cell_tmp rfl]
          go_simp
        · repeat (refine Below.setCell ?_ (by simp; omega) _)
          exact HB3.out
    · have HD : Hid (decide (Ho no gen) = false) := decide_eq_false ho
      have hE : Fo.addErr l next s no gen = 1 := Fo.add_ho ha ho
      rw [hE, if_neg (by decide), if_neg (by decide)]
      clear ha ho hrt hE
      go_enter Tryz.func88, Tryz.ntmps88
      go_wp2_with fail
      rw [← hW]
      refine (asked_any _ l next s _ HV.out HS.out HNN.out).mono ?_
      rintro e w1 ⟨rfl, hb⟩
      rw [HA.out]
      have HB1 : Hid (Below w.heap.size w w1) := HB0.out.trans (hb.mono HB0.out.size)
      have HX1 : Hid (Bx w.heap.size (.slice ao m cap) next no gen w1) := HX0.out.step hb
      have HV1 : Hid (AtW EE w1 (.slice ao m cap) l) := HV.out.up hb
      clear hb hW x0 x1
      obtain ⟨k0, k1⟩ := handb_of HX1.out.2.1
      go_wp2_with fail
      refine (rto_any no gen _).mono ?_
      rintro e w2 ⟨rfl, hw2⟩
      rw [HD.out]
      have hb2 : Below w1.heap.size w1 w2 := by rw [hw2]; exact (Below.refl _ _).alloc (Nat.le_refl _) _
      have HB2 : Hid (Below w.heap.size w w2) := HB1.out.trans (hb2.mono HB1.out.size)
      have HX2 : Hid (Bx w.heap.size (.slice ao m cap) next no gen w2) := HX1.out.step hb2
      have HV2 : Hid (AtW EE w2 (.slice ao m cap) l) := HV1.out.up hb2
      clear hb2 hw2 k0 k1
      obtain ⟨⟨r0, r1⟩, rf⟩ := fold_of (v := .slice none 0 0) (n := 0) HX2.out.2.2
      go_wp2
      (try simp only [Exit.inBlock, Exit.then])
      refine bodyPost_ret (v := .tuple #[VD (.slice none 0 0) 0, .int .i64 1]) ?_ rfl ⟨.slice none 0 0, rfl, At.nil, ?_⟩
      · rw [results_cell_tmp rfl]
        go_simp
      · repeat (refine Below.setCell ?_ (by simp; omega) _)
        exact HB2.out
  · have HA : Hid (Fo.ask l next s = 4) := ha
    rw [Fo.add_ask ha (by decide), if_neg (by decide), if_neg (by decide)]
    clear ha
    go_enter Tryz.func88, Tryz.ntmps88
    go_wp2_with fail
    rw [← hW]
    refine (asked_any _ l next s _ HV.out HS.out HNN.out).mono ?_
    rintro e w1 ⟨rfl, hb⟩
    rw [HA.out]
    have HB1 : Hid (Below w.heap.size w w1) := HB0.out.trans (hb.mono HB0.out.size)
    have HX1 : Hid (Bx w.heap.size (.slice ao m cap) next no gen w1) := HX0.out.step hb
    have HV1 : Hid (AtW EE w1 (.slice ao m cap) l) := HV.out.up hb
    clear hb hW x0 x1
    obtain ⟨⟨r0, r1⟩, rf⟩ := fold_of (v := .slice none 0 0) (n := 0) HX1.out.2.2
    go_wp2
    (try simp only [Exit.inBlock, Exit.then])
    refine bodyPost_ret (v := .tuple #[VD (.slice none 0 0) 0, .int .i64 4]) ?_ rfl ⟨.slice none 0 0, rfl, At.nil, ?_⟩
    · rw [results_cell_tmp rfl]
      go_simp
    · repeat (refine Below.setCell ?_ (by simp; omega) _)
      exact HB1.out
  · have HA : Hid (Fo.ask l next s = 409) := ha
    rw [Fo.add_ask ha (by decide), if_neg (by decide), if_neg (by decide)]
    clear ha
    go_enter Tryz.func88, Tryz.ntmps88
    go_wp2_with fail
    rw [← hW]
    refine (asked_any _ l next s _ HV.out HS.out HNN.out).mono ?_
    rintro e w1 ⟨rfl, hb⟩
    rw [HA.out]
    have HB1 : Hid (Below w.heap.size w w1) := HB0.out.trans (hb.mono HB0.out.size)
    have HX1 : Hid (Bx w.heap.size (.slice ao m cap) next no gen w1) := HX0.out.step hb
    have HV1 : Hid (AtW EE w1 (.slice ao m cap) l) := HV.out.up hb
    clear hb hW x0 x1
    obtain ⟨⟨r0, r1⟩, rf⟩ := fold_of (v := .slice none 0 0) (n := 0) HX1.out.2.2
    go_wp2
    (try simp only [Exit.inBlock, Exit.then])
    refine bodyPost_ret (v := .tuple #[VD (.slice none 0 0) 0, .int .i64 409]) ?_ rfl ⟨.slice none 0 0, rfl, At.nil, ?_⟩
    · rw [results_cell_tmp rfl]
      go_simp
    · repeat (refine Below.setCell ?_ (by simp; omega) _)
      exact HB1.out
end Go.Proofs.YtacghcoikekfeaaGreat
