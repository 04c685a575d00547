/-
  seat.Put, seat.Drop: what they answer.
-/
import Derived.Test.YtaojdndhhgmdmaaAsk
import Derived.OwnWalk
namespace Go.Proofs.Ytaojdndhhgmdmaa
open Go.ChangeShapes Go.WideShapes Go.ChangeAt Go.RowKit Go.Deep
theorem at_one {w : World} {B : Nat} {x : Sea} (h : w.heap[B]? = some (BS x)) : AtW ES w (.slice (some ⟨B, 0, none⟩) 1 1) [x] := by
  refine .inr ⟨B, 0, 1, rfl, trivial, (Array.getElem?_eq_some_iff.1 h).1, by simp, by simp, by decide, fun j u hj => ?_⟩
  simp only [World.cell?, h, Nat.zero_add]
  simpa [Enc.flat, ES] using hj
theorem at_two (wr : World) (x : Sea) : AtW ES ((wr.alloc (BS x)).alloc (BS x)) (.slice (some ⟨wr.heap.size + 1, 0, none⟩) 1 1) [x] := by
  have h2 := heap_alloc_new (wr.alloc (BS x)) (BS x)
  rw [show (wr.alloc (BS x)).heap.size = wr.heap.size + 1 by simp] at h2
  exact at_one h2
/-- The cells of a seat in a block of its own. -/
abbrev Thr (X : Nat) (x : Sea) (w : World) : Prop := w.cell? ⟨X, 0, none⟩ = some (.int .i64 x.1) ∧ w.cell? ⟨X, 1, none⟩ = some (.int .i64 x.2.1) ∧ w.cell? ⟨X, 2, none⟩ = some (.string x.2.2)
theorem thr_step {X : Nat} {x : Sea} {w w' : World} (h : Thr X x w) (hb : Below w.heap.size w w') : Thr X x w' := ⟨cell_step h.1 hb, cell_step h.2.1 hb, cell_step h.2.2 hb⟩
theorem thr_alloc {X : Nat} {x : Sea} {w : World} (h : Thr X x w) (o : Obj) : Thr X x (w.alloc o) := thr_step h ((Below.refl _ _).alloc (Nat.le_refl _) _)
theorem thr_drew {X : Nat} {x : Sea} {w : World} (h : Thr X x w) : Thr X x w.drew := h
theorem concat_put (w1 : World) (v1 v3 : Value) (l1 l3 : List Sea) (x : Sea) (h1 : AtW ES w1 v1 l1) (h3 : AtW ES w1 v3 l3) (hl : l1.length + 1 + l3.length ≤ 2199023255552) :
    Calls Try.prog 20 #[.slice (some ⟨w1.heap.size + 1 + 1, 0, none⟩) 3 3] (((w1.alloc (BS x)).alloc (BS x)).alloc (.cells #[v1, .slice (some ⟨w1.heap.size + 1, 0, none⟩) 1 1, v3] 22)).drew
      fun e w' => ∃ u, e = .returned u ∧ Row ES w' (w1.heap.size + 1 + 1 + 1) 48 u (l1 ++ [x] ++ l3) ∧ Below (((w1.alloc (BS x)).alloc (BS x)).alloc (.cells #[v1, .slice (some ⟨w1.heap.size + 1, 0, none⟩) 1 1, v3] 22)).drew.heap.size (((w1.alloc (BS x)).alloc (BS x)).alloc (.cells #[v1, .slice (some ⟨w1.heap.size + 1, 0, none⟩) 1 1, v3] 22)).drew w' := by
  have hh := heap_alloc_new ((w1.alloc (BS x)).alloc (BS x)) (.cells #[v1, .slice (some ⟨w1.heap.size + 1, 0, none⟩) 1 1, v3] 22)
  have z2 : ((w1.alloc (BS x)).alloc (BS x)).heap.size = w1.heap.size + 1 + 1 := by simp
  rw [z2] at hh
  have hb1 : Below w1.heap.size w1 (((w1.alloc (BS x)).alloc (BS x)).alloc (.cells #[v1, .slice (some ⟨w1.heap.size + 1, 0, none⟩) 1 1, v3] 22)) := (((Below.refl _ w1).alloc (Nat.le_refl _) _).alloc (by simp) _).alloc (by simp; omega) _
  have hx := (at_two w1 x).up ((Below.refl _ _).alloc (Nat.le_refl _) (.cells #[v1, .slice (some ⟨w1.heap.size + 1, 0, none⟩) 1 1, v3] 22))
  have z3 : (((w1.alloc (BS x)).alloc (BS x)).alloc (.cells #[v1, .slice (some ⟨w1.heap.size + 1, 0, none⟩) 1 1, v3] 22)).heap.size = w1.heap.size + 1 + 1 + 1 := by simp
  have k1 := h1.up hb1
  have k3 := h3.up hb1
  generalize ((w1.alloc (BS x)).alloc (BS x)).alloc (.cells #[v1, .slice (some ⟨w1.heap.size + 1, 0, none⟩) 1 1, v3] 22) = w3 at *
  have hc := concat_three (w1.heap.size + 1 + 1) v1 _ v3 l1 [x] l3 w3.drew (by show _ < w3.heap.size; omega) (by simp only [World.cell?]; rw [show w3.drew.heap[w1.heap.size + 1 + 1]? = w3.heap[w1.heap.size + 1 + 1]? from rfl, hh]; rfl) (by simp only [World.cell?]; rw [show w3.drew.heap[w1.heap.size + 1 + 1]? = w3.heap[w1.heap.size + 1 + 1]? from rfl, hh]; rfl) (by simp only [World.cell?]; rw [show w3.drew.heap[w1.heap.size + 1 + 1]? = w3.heap[w1.heap.size + 1 + 1]? from rfl, hh]; rfl) k1 hx k3 (by simpa using hl)
  refine hc.mono ?_
  rintro e w5 ⟨u, rfl, hr, hb⟩
  refine ⟨u, rfl, ?_, hb⟩
  rw [← z3]
  exact hr
theorem concat_drop (w1 : World) (v1 v2 : Value) (l1 l2 : List Sea) (h1 : AtW ES w1 v1 l1) (h2 : AtW ES w1 v2 l2) (hl : l1.length + l2.length ≤ 2199023255552) :
    Calls Try.prog 20 #[.slice (some ⟨w1.heap.size, 0, none⟩) 2 2] (w1.alloc (.cells #[v1, v2] 22)).drew
      fun e w' => ∃ u, e = .returned u ∧ Row ES w' (w1.heap.size + 1) 48 u (l1 ++ l2) ∧ Below (w1.alloc (.cells #[v1, v2] 22)).drew.heap.size (w1.alloc (.cells #[v1, v2] 22)).drew w' := by
  have hh := heap_alloc_new w1 (.cells #[v1, v2] 22)
  have hb1 : Below w1.heap.size w1 (w1.alloc (.cells #[v1, v2] 22)) := (Below.refl _ w1).alloc (Nat.le_refl _) _
  have z3 : (w1.alloc (.cells #[v1, v2] 22)).heap.size = w1.heap.size + 1 := by simp
  have k1 := h1.up hb1
  have k2 := h2.up hb1
  generalize w1.alloc (.cells #[v1, v2] 22) = w3 at *
  have hc := concat_two w1.heap.size v1 v2 l1 l2 w3.drew (by show _ < w3.heap.size; omega) (by simp only [World.cell?]; rw [show w3.drew.heap[w1.heap.size]? = w3.heap[w1.heap.size]? from rfl, hh]; rfl) (by simp only [World.cell?]; rw [show w3.drew.heap[w1.heap.size]? = w3.heap[w1.heap.size]? from rfl, hh]; rfl) k1 k2 hl
  refine hc.mono ?_
  rintro e w5 ⟨u, rfl, hr, hb⟩
  refine ⟨u, rfl, ?_, hb⟩
  rw [← z3]
  exact hr
set_option maxHeartbeats 4000000 in
theorem put_any (v : Value) (l : List Sea) (c r : Int) (s : ByteArray) (w : World) (hv : AtW ES w v l) :
    Calls Try.prog 15 #[v, .int .i64 c, .int .i64 r, .string s] w fun e w' => ∃ p n q, e = .returned (.tuple #[.slice p n q, .int .i64 (Se.putErr l c r s)]) ∧ At ES (fun b => w.heap.size ≤ b) w' (.slice p n q) (Se.put l c r s) ∧ Below w.heap.size w w' := by
  have hv0 := hv
  obtain ⟨ao, cap, rfl, hm, -⟩ := hv0.open
  clear hv0
  unfold maxLen at hm
  obtain ⟨m, hlm⟩ : ∃ m, l.length = m := ⟨_, rfl⟩
  rw [hlm] at hm hv ⊢
  have HLM : Hid (l.length = m) := hlm
  have HV : Hid (AtW ES w (.slice ao m cap) l) := hv
  clear hlm hv
  by_cases he : Se.putErr l c r s = 0
  · have HE : Hid (Se.putErr l c r s = 0) := he
    have HO : Hid (Se.ok l = true) := by
      have h0 := (Se.put_ok he).1
      rcases Se.rErr_or l c r with ⟨_, _, h, _⟩ | ⟨_, _, h, _⟩ | ⟨h, h2⟩
      · exact h
      · exact h
      · omega
    have hm6 := Se.ok_len HO.out
    rw [HLM.out] at hm6
    have HPT : Hid (Se.put l c r s = l.filter (fun x => decide (x.1 < c)) ++ [(c, r, s)] ++ l.filter (fun x => decide (c < x.1))) := if_pos he
    have hfm := Se.plc_le l c
    have HTK : Hid (l.take (Se.plc l c) = l.filter (fun x => decide (x.1 < c))) := Se.take_plc l c (Se.ok_sorted HO.out)
    obtain ⟨f, hf⟩ : ∃ f, Se.plc l c = f := ⟨_, rfl⟩
    have HLF : Hid (Se.plc l c = f) := hf
    rw [hf] at HTK hfm
    rw [HLM.out] at hfm
    have hcap : f ≤ cap := by
      by_cases h0 : 0 < m
      · have := HV.out.capd h0
        omega
      · omega
    obtain ⟨q1, c1, hs1⟩ : ∃ q cc, sliced ao 0 f cap ES.sz = .slice q f cc := ⟨_, _, rfl⟩
    have hsl1 : ∀ w', (Instr.slice 22 (.slice ao m cap) none (some (.int .i64 (f : Int))) none).run Try.prog w' = .ok (.slice q1 f c1) w' := fun w' => by rw [run_cut_h w' _ m cap f hcap, hs1]
    obtain ⟨q2, n2, c2, hs2⟩ : ∃ q n cc, sliced ao f m cap ES.sz = .slice q n cc := ⟨_, _, _, rfl⟩
    have hsl2 : ∀ w', (Instr.slice 22 (.slice ao m cap) (some (.int .i64 (f : Int))) none none).run Try.prog w' = .ok (.slice q2 n2 c2) w' := fun w' => by rw [run_cut_l w' _ m cap f hfm, hs2]
    have HCUT1 : Hid (∀ w', AtW ES w' (.slice ao m cap) l → AtW ES w' (.slice q1 f c1) (l.take f)) := fun w' h => by
      have g1 := h.cut (lo := 0) (hi := f) (Nat.zero_le _) hfm
      rw [hs1] at g1
      simpa using g1
    rw [he]
    cases hse : Se.seat l c with
    | none =>
      have HI : Hid ((Se.seat l c).isSome = false) := by show (Se.seat l c).isSome = false; rw [hse]; rfl
      have HDR : Hid (l.drop f = l.filter (fun x => decide (c < x.1))) := by
        have := Se.high_miss (Se.ok_sorted HO.out) hse
        rwa [hf] at this
      have HCUT2 : Hid (∀ w', AtW ES w' (.slice ao m cap) l → AtW ES w' (.slice q2 n2 c2) (l.drop f)) := fun w' h => by
        have g2 := h.cut (lo := f) (hi := m) hfm (Nat.le_refl _)
        rw [hs2, ← HLM.out, List.take_length] at g2
        exact g2
      have HKL : Hid ((l.take f).length + 1 + (l.drop f).length ≤ 2199023255552) := by
        show (l.take f).length + 1 + (l.drop f).length ≤ 2199023255552
        have := HLM.out
        simp only [List.length_take, List.length_drop]
        omega
      clear he hf hs1 hs2 hm hse
      go_enter Try.func15, Try.ntmps15
      go_wp2_with fail
      refine (refusePut_any _ l c r s _ HV.out).mono ?_
      rintro e w1 ⟨rfl, hb⟩
      rw [HE.out]
      have HB1 : Hid (Below w.heap.size w w1) := hb
      have HV1 : Hid (AtW ES w1 (.slice ao m cap) l) := HV.out.up hb
      clear hb
      go_wp2_with fail
      refine (place_any _ l c _ HV1.out (Se.ok_sorted HO.out) (Se.ok_len HO.out)).mono ?_
      rintro e w2 ⟨rfl, hb⟩
      rw [HLF.out, HI.out]
      have HB2 : Hid (Below w.heap.size w w2) := HB1.out.trans (hb.mono HB1.out.size)
      have HV2 : Hid (AtW ES w2 (.slice ao m cap) l) := HV1.out.up hb
      have hsz2 := HB2.out.size
      have HSS : Hid (Thr w2.heap.size (c, r, s) (w2.alloc (BS (c, r, s)))) := (sea_of (heap_alloc_new w2 (BS (c, r, s)))).1
      clear hb
      go_wp2_with fail
      go_region_held3 (fun w' => w'.cell? ⟨w2.heap.size, 0, none⟩ = some (.int .i64 c) ∧ w'.cell? ⟨w2.heap.size, 1, none⟩ = some (.int .i64 r) ∧ w'.cell? ⟨w2.heap.size, 2, none⟩ = some (.string s)) (first | exact HSS.out | exact thr_drew HSS.out | exact thr_drew (thr_alloc HSS.out _) | exact thr_drew (thr_alloc (thr_alloc HSS.out _) _) | exact thr_alloc HSS.out _ | exact thr_alloc (thr_alloc HSS.out _) _ | exact thr_step (thr_drew (thr_alloc (thr_alloc HSS.out _) _)) (by assumption)) (first
        | (go_at_call 20; refine (concat_put w2 _ _ (l.take f) (l.drop f) (c, r, s) (HCUT1.out _ HV2.out) (HCUT2.out _ HV2.out) HKL.out).mono ?_; rintro e w5 ⟨u, rfl, hr, hb5⟩; obtain ⟨pu, nu, cu, rfl⟩ := hr.slice3))
      have HEND : Hid (At ES (fun b => w.heap.size ≤ b) w5 (.slice pu nu cu) (Se.put l c r s) ∧ Below w.heap.size w w5) := by
        have h := hr.at.imp (T := fun b => w.heap.size ≤ b) (fun b hb _ => by omega)
        rw [HTK.out, HDR.out, ← HPT.out] at h
        have h3 : Below w.heap.size w (((w2.alloc (BS (c, r, s))).alloc (BS (c, r, s))).alloc (.cells #[.slice q1 f c1, .slice (some ⟨w2.heap.size + 1, 0, none⟩) 1 1, .slice q2 n2 c2] 22)) := ((HB2.out.alloc (by omega) _).alloc (by simp; omega) _).alloc (by simp; omega) _
        exact ⟨h, h3.trans ((undrew hb5).mono h3.size)⟩
      clear hr hb5
      go_wp2
      go_ret2
      exact ⟨_, _, _, rfl, HEND.out.1, HEND.out.2⟩
    | some y =>
      have HI : Hid ((Se.seat l c).isSome = true) := by show (Se.seat l c).isSome = true; rw [hse]; rfl
      have hfl : f + 1 ≤ m := by
        have := (List.getElem?_eq_some_iff.1 (Se.seat_at (Se.ok_sorted HO.out) hse)).1
        rw [hf, HLM.out] at this
        exact this
      have HDR : Hid (l.drop (f + 1) = l.filter (fun x => decide (c < x.1))) := by
        have := Se.high_hit (Se.ok_sorted HO.out) hse
        rwa [hf] at this
      obtain ⟨q3, n3, c3, hs3⟩ : ∃ q n cc, sliced ao (f + 1) m cap ES.sz = .slice q n cc := ⟨_, _, _, rfl⟩
      have hsl3 : ∀ w', (Instr.slice 22 (.slice ao m cap) (some (.int .i64 ((f : Int) + 1))) none none).run Try.prog w' = .ok (.slice q3 n3 c3) w' := fun w' => by
        have := run_cut_l w' ao m cap (f + 1) hfl
        rw [hs3] at this
        exact this
      have HCUT2 : Hid (∀ w', AtW ES w' (.slice ao m cap) l → AtW ES w' (.slice q3 n3 c3) (l.drop (f + 1))) := fun w' h => by
        have g2 := h.cut (lo := f + 1) (hi := m) hfl (Nat.le_refl _)
        rw [hs3, ← HLM.out, List.take_length] at g2
        exact g2
      have HKL : Hid ((l.take f).length + 1 + (l.drop (f + 1)).length ≤ 2199023255552) := by
        show (l.take f).length + 1 + (l.drop (f + 1)).length ≤ 2199023255552
        have := HLM.out
        simp only [List.length_take, List.length_drop]
        omega
      clear he hf hs1 hs2 hs3 hm hse
      go_enter Try.func15, Try.ntmps15
      go_wp2_with fail
      refine (refusePut_any _ l c r s _ HV.out).mono ?_
      rintro e w1 ⟨rfl, hb⟩
      rw [HE.out]
      have HB1 : Hid (Below w.heap.size w w1) := hb
      have HV1 : Hid (AtW ES w1 (.slice ao m cap) l) := HV.out.up hb
      clear hb
      go_wp2_with fail
      refine (place_any _ l c _ HV1.out (Se.ok_sorted HO.out) (Se.ok_len HO.out)).mono ?_
      rintro e w2 ⟨rfl, hb⟩
      rw [HLF.out, HI.out]
      have HB2 : Hid (Below w.heap.size w w2) := HB1.out.trans (hb.mono HB1.out.size)
      have HV2 : Hid (AtW ES w2 (.slice ao m cap) l) := HV1.out.up hb
      have hsz2 := HB2.out.size
      have HSS : Hid (Thr w2.heap.size (c, r, s) (w2.alloc (BS (c, r, s)))) := (sea_of (heap_alloc_new w2 (BS (c, r, s)))).1
      clear hb
      go_wp2_with fail
      go_region_held3 (fun w' => w'.cell? ⟨w2.heap.size, 0, none⟩ = some (.int .i64 c) ∧ w'.cell? ⟨w2.heap.size, 1, none⟩ = some (.int .i64 r) ∧ w'.cell? ⟨w2.heap.size, 2, none⟩ = some (.string s)) (first | exact HSS.out | exact thr_drew HSS.out | exact thr_drew (thr_alloc HSS.out _) | exact thr_drew (thr_alloc (thr_alloc HSS.out _) _) | exact thr_alloc HSS.out _ | exact thr_alloc (thr_alloc HSS.out _) _ | exact thr_step (thr_drew (thr_alloc (thr_alloc HSS.out _) _)) (by assumption)) (first
        | (go_at_call 20; refine (concat_put w2 _ _ (l.take f) (l.drop (f + 1)) (c, r, s) (HCUT1.out _ HV2.out) (HCUT2.out _ HV2.out) HKL.out).mono ?_; rintro e w5 ⟨u, rfl, hr, hb5⟩; obtain ⟨pu, nu, cu, rfl⟩ := hr.slice3))
      have HEND : Hid (At ES (fun b => w.heap.size ≤ b) w5 (.slice pu nu cu) (Se.put l c r s) ∧ Below w.heap.size w w5) := by
        have h := hr.at.imp (T := fun b => w.heap.size ≤ b) (fun b hb _ => by omega)
        rw [HTK.out, HDR.out, ← HPT.out] at h
        have h3 : Below w.heap.size w (((w2.alloc (BS (c, r, s))).alloc (BS (c, r, s))).alloc (.cells #[.slice q1 f c1, .slice (some ⟨w2.heap.size + 1, 0, none⟩) 1 1, .slice q3 n3 c3] 22)) := ((HB2.out.alloc (by omega) _).alloc (by simp; omega) _).alloc (by simp; omega) _
        exact ⟨h, h3.trans ((undrew hb5).mono h3.size)⟩
      clear hr hb5
      go_wp2
      go_ret2
      exact ⟨_, _, _, rfl, HEND.out.1, HEND.out.2⟩
  · have HPT : Hid (Se.put l c r s = []) := if_neg he
    obtain ⟨a, ha⟩ : ∃ a, Se.putErr l c r s = a := ⟨_, rfl⟩
    rw [ha] at he ⊢
    have HA : Hid (Se.putErr l c r s = a) := ha
    have hne : (a != 0) = true := by simpa using he
    clear he ha
    go_enter Try.func15, Try.ntmps15
    go_wp2_with fail
    refine (refusePut_any _ l c r s _ HV.out).mono ?_
    rintro e w1 ⟨rfl, hb⟩
    rw [HA.out]
    go_wp2
    go_ret2
    exact ⟨_, _, _, rfl, by rw [HPT.out]; exact At.nil, hb⟩
set_option maxHeartbeats 4000000 in
theorem drop_any (v : Value) (l : List Sea) (c : Int) (w : World) (hv : AtW ES w v l) :
    Calls Try.prog 9 #[v, .int .i64 c] w fun e w' => ∃ p n q, e = .returned (.tuple #[.slice p n q, .int .i64 (Se.dropErr l c)]) ∧ At ES (fun b => w.heap.size ≤ b) w' (.slice p n q) (Se.dropped l c) ∧ Below w.heap.size w w' := by
  have hv0 := hv
  obtain ⟨ao, cap, rfl, hm, -⟩ := hv0.open
  clear hv0
  unfold maxLen at hm
  obtain ⟨m, hlm⟩ : ∃ m, l.length = m := ⟨_, rfl⟩
  rw [hlm] at hm hv ⊢
  have HLM : Hid (l.length = m) := hlm
  have HV : Hid (AtW ES w (.slice ao m cap) l) := hv
  clear hlm hv
  by_cases he : Se.cErr l c = 0
  · have HE : Hid (Se.cErr l c = 0) := he
    have HO : Hid (Se.ok l = true) := by
      rcases Se.cErr_or l c with ⟨_, h, _⟩ | ⟨_, h, _⟩ | ⟨h, _⟩
      · exact h
      · exact h
      · omega
    have hm6 := Se.ok_len HO.out
    rw [HLM.out] at hm6
    have hfm := Se.plc_le l c
    obtain ⟨f, hf⟩ : ∃ f, Se.plc l c = f := ⟨_, rfl⟩
    have HLF : Hid (Se.plc l c = f) := hf
    rw [hf] at hfm
    rw [HLM.out] at hfm
    cases hse : Se.seat l c with
    | none =>
      have HI : Hid ((Se.seat l c).isSome = false) := by show (Se.seat l c).isSome = false; rw [hse]; rfl
      have hde : Se.dropErr l c = 6 := by unfold Se.dropErr; rw [if_pos he, hse]
      have HDD : Hid (Se.dropped l c = []) := if_neg (by rw [hde]; decide)
      rw [hde]
      clear he hf hse hde
      go_enter Try.func9, Try.ntmps9
      go_wp2_with fail
      refine (refuse_any _ l c _ HV.out).mono ?_
      rintro e w1 ⟨rfl, hb⟩
      rw [HE.out]
      have HB1 : Hid (Below w.heap.size w w1) := hb
      have HV1 : Hid (AtW ES w1 (.slice ao m cap) l) := HV.out.up hb
      clear hb
      go_wp2_with fail
      refine (place_any _ l c _ HV1.out (Se.ok_sorted HO.out) (Se.ok_len HO.out)).mono ?_
      rintro e w2 ⟨rfl, hb⟩
      rw [HLF.out, HI.out]
      have HB2 : Hid (Below w.heap.size w w2) := HB1.out.trans (hb.mono HB1.out.size)
      clear hb
      go_wp2
      go_ret2
      exact ⟨_, _, _, rfl, by rw [HDD.out]; exact At.nil, HB2.out⟩
    | some y =>
      have HI : Hid ((Se.seat l c).isSome = true) := by show (Se.seat l c).isSome = true; rw [hse]; rfl
      have hde : Se.dropErr l c = 0 := by unfold Se.dropErr; rw [if_pos he, hse]
      have HDD : Hid (Se.dropped l c = l.take f ++ l.drop (f + 1)) := by
        show Se.dropped l c = _
        unfold Se.dropped
        rw [if_pos hde, Se.dropped_hit (Se.ok_sorted HO.out) hse, hf]
      have hfl : f + 1 ≤ m := by
        have := (List.getElem?_eq_some_iff.1 (Se.seat_at (Se.ok_sorted HO.out) hse)).1
        rw [hf, HLM.out] at this
        exact this
      have hcap : f ≤ cap := by
        have := HV.out.capd (by omega)
        omega
      obtain ⟨q1, c1, hs1⟩ : ∃ q cc, sliced ao 0 f cap ES.sz = .slice q f cc := ⟨_, _, rfl⟩
      have hsl1 : ∀ w', (Instr.slice 22 (.slice ao m cap) none (some (.int .i64 (f : Int))) none).run Try.prog w' = .ok (.slice q1 f c1) w' := fun w' => by rw [run_cut_h w' _ m cap f hcap, hs1]
      obtain ⟨q3, n3, c3, hs3⟩ : ∃ q n cc, sliced ao (f + 1) m cap ES.sz = .slice q n cc := ⟨_, _, _, rfl⟩
      have hsl3 : ∀ w', (Instr.slice 22 (.slice ao m cap) (some (.int .i64 ((f : Int) + 1))) none none).run Try.prog w' = .ok (.slice q3 n3 c3) w' := fun w' => by
        have := run_cut_l w' ao m cap (f + 1) hfl
        rw [hs3] at this
        exact this
      have HCUT : Hid (∀ w', AtW ES w' (.slice ao m cap) l → AtW ES w' (.slice q1 f c1) (l.take f) ∧ AtW ES w' (.slice q3 n3 c3) (l.drop (f + 1))) := fun w' h => by
        have g1 := h.cut (lo := 0) (hi := f) (Nat.zero_le _) hfm
        have g2 := h.cut (lo := f + 1) (hi := m) hfl (Nat.le_refl _)
        rw [hs1] at g1
        rw [hs3, ← HLM.out, List.take_length] at g2
        exact ⟨by simpa using g1, g2⟩
      have HKL : Hid ((l.take f).length + (l.drop (f + 1)).length ≤ 2199023255552) := by
        show (l.take f).length + (l.drop (f + 1)).length ≤ 2199023255552
        have := HLM.out
        simp only [List.length_take, List.length_drop]
        omega
      have hwf : IntKind.i64.wrap ((f : Int) + 1) = (f : Int) + 1 := IntWalk.i64_in _ (by omega)
      rw [hde]
      clear he hf hse hde hs1 hs3 hm
      go_enter Try.func9, Try.ntmps9
      go_wp2_with fail
      refine (refuse_any _ l c _ HV.out).mono ?_
      rintro e w1 ⟨rfl, hb⟩
      rw [HE.out]
      have HB1 : Hid (Below w.heap.size w w1) := hb
      have HV1 : Hid (AtW ES w1 (.slice ao m cap) l) := HV.out.up hb
      clear hb
      go_wp2_with fail
      refine (place_any _ l c _ HV1.out (Se.ok_sorted HO.out) (Se.ok_len HO.out)).mono ?_
      rintro e w2 ⟨rfl, hb⟩
      rw [HLF.out, HI.out]
      have HB2 : Hid (Below w.heap.size w w2) := HB1.out.trans (hb.mono HB1.out.size)
      clear hb
      have HV2 : Hid (AtW ES w2 (.slice ao m cap) l) := HV.out.up HB2.out
      have hsz2 := HB2.out.size
      go_wp2_with fail
      go_region_held3 (fun _ => True) (trivial) (first
        | (go_at_call 20; refine (concat_drop w2 _ _ (l.take f) (l.drop (f + 1)) (HCUT.out _ HV2.out).1 (HCUT.out _ HV2.out).2 HKL.out).mono ?_; rintro e w5 ⟨u, rfl, hr, hb5⟩; obtain ⟨pu, nu, cu, rfl⟩ := hr.slice3))
      have HEND : Hid (At ES (fun b => w.heap.size ≤ b) w5 (.slice pu nu cu) (Se.dropped l c) ∧ Below w.heap.size w w5) := by
        have h := hr.at.imp (T := fun b => w.heap.size ≤ b) (fun b hb _ => by omega)
        rw [← HDD.out] at h
        have h3 : Below w.heap.size w (w2.alloc (.cells #[.slice q1 f c1, .slice q3 n3 c3] 22)) := HB2.out.alloc (by omega) _
        exact ⟨h, h3.trans ((undrew hb5).mono h3.size)⟩
      clear hr hb5
      go_wp2
      go_ret2
      exact ⟨_, _, _, rfl, HEND.out.1, HEND.out.2⟩
  · obtain ⟨a, ha⟩ : ∃ a, Se.cErr l c = a := ⟨_, rfl⟩
    have hde : Se.dropErr l c = a := by unfold Se.dropErr; rw [if_neg he, ha]
    have HDD : Hid (Se.dropped l c = []) := if_neg (by rw [hde, ← ha]; exact he)
    rw [hde]
    rw [ha] at he
    have HA : Hid (Se.cErr l c = a) := ha
    have hne : (a != 0) = true := by simpa using he
    clear he ha hde
    go_enter Try.func9, Try.ntmps9
    go_wp2_with fail
    refine (refuse_any _ l c _ HV.out).mono ?_
    rintro e w1 ⟨rfl, hb⟩
    rw [HA.out]
    go_wp2
    go_ret2
    exact ⟨_, _, _, rfl, by rw [HDD.out]; exact At.nil, hb⟩
end Go.Proofs.Ytaojdndhhgmdmaa
