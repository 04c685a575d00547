/-
  opens.Open: what it answers.
-/
import Derived.Test.YtlikcijoejgkkaaConcat
import Derived.OwnWalk
namespace Go.Proofs.Ytlikcijoejgkkaa
open Go.ChangeShapes Go.WideShapes Go.ChangeAt Go.RowKit Go.Deep
theorem cell_lt {w : World} {b j : Nat} {v : Value} (h : w.cell? ⟨b, j, none⟩ = some v) : b < w.heap.size := by
  unfold World.cell? at h
  by_cases hb : b < w.heap.size
  · exact hb
  · rw [Array.getElem?_eq_none (by simpa using hb)] at h
    simp at h
theorem cell_step {w w' : World} {b j : Nat} {v : Value} (h : w.cell? ⟨b, j, none⟩ = some v) (hb : Below w.heap.size w w') : w'.cell? ⟨b, j, none⟩ = some v := cell_next h hb (cell_lt h)
theorem undrew {w w' : World} (h : Below w.drew.heap.size w.drew w') : Below w.heap.size w w' := ⟨h.os, h.tape, h.output, h.size, h.block⟩
theorem At.cut {α : Type} {E : Enc α} {S : Nat → Prop} {w : World} {ao : Option Addr} {m cap : Nat} {l : List α} (h : At E S w (.slice ao m cap) l) {lo hi : Nat} (h1 : lo ≤ hi) (h2 : hi ≤ m) : At E S w (sliced ao lo hi cap E.sz) ((l.take hi).drop lo) := by
  by_cases he : hi = lo
  · have hz : (l.take hi).drop lo = [] := by
      apply List.eq_nil_of_length_eq_zero
      simp
      omega
    unfold sliced
    rw [hz, show hi - lo = 0 by omega]
    exact .inl ⟨_, _, rfl, rfl⟩
  · rcases h with ⟨ao, c, hv, rfl⟩ | ⟨b, off, c', hv, hS, hb, hp, hc, hm, hx⟩
    · simp only [Value.slice.injEq] at hv
      omega
    · simp only [Value.slice.injEq] at hv
      obtain ⟨rfl, rfl, rfl⟩ := hv
      have hlen : ((l.take hi).drop lo).length = hi - lo := by simp; omega
      refine .inr ⟨b, off + lo * E.sz, cap - lo, ?_, hS, hb, by omega, by omega, by omega, fun j u hj => ?_⟩
      · rw [hlen]
        unfold sliced
        rw [if_neg (by omega)]
        simp [WideShapes.add_plain]
      · have e : l = l.take lo ++ ((l.take hi).drop lo ++ l.drop hi) := by
          have e1 : l.take lo = (l.take hi).take lo := by rw [List.take_take, Nat.min_eq_left h1]
          rw [← List.append_assoc, e1, List.take_append_drop, List.take_append_drop]
        have hlt := (List.getElem?_eq_some_iff.1 hj).1
        have hl0 : (E.flat (l.take lo)).length = lo * E.sz := by rw [E.flat_length, List.length_take, Nat.min_eq_left (by omega)]
        have := hx (lo * E.sz + j) u (by
          rw [e, E.flat_append, E.flat_append, List.getElem?_append_right (by omega), hl0, show lo * E.sz + j - lo * E.sz = j by omega, List.getElem?_append_left hlt]
          exact hj)
        rwa [← Nat.add_assoc] at this
theorem run_cut_h (w : World) (a : Option Addr) (m cap k : Nat) (hk : k ≤ cap) : (Instr.slice 22 (.slice a m cap) none (some (.int .i64 (k : Int))) none).run Try.prog w = .ok (sliced a 0 k cap EO.sz) w := by
  rw [run_slice_h (P := Try.prog) w 22 a m cap Try.underlying22 .i64 (k : Int) (by omega) (by omega)]
  rfl
theorem run_cut_l (w : World) (a : Option Addr) (m cap k : Nat) (hk : k ≤ m) : (Instr.slice 22 (.slice a m cap) (some (.int .i64 (k : Int))) none none).run Try.prog w = .ok (sliced a k m cap EO.sz) w := by
  rw [run_slice_l (P := Try.prog) w 22 a m cap Try.underlying22 .i64 (k : Int) (by omega) (by omega), show ((k : Int)).toNat = k by omega]
  rfl
theorem Row.slice3 {α : Type} {E : Enc α} {w : World} {B : Nat} {e : TypeId} {v : Value} {ls : List α} (h : Row E w B e v ls) : ∃ p n c, v = .slice p n c := by
  obtain ⟨p, c, h⟩ := h.slice
  exact ⟨p, _, c, h⟩
theorem At.capd {α : Type} {E : Enc α} {S : Nat → Prop} {w : World} {a : Option Addr} {m cap : Nat} {l : List α} (h : At E S w (.slice a m cap) l) (h0 : 0 < m) : m ≤ cap ∧ cap ≤ maxLen := by
  rcases h with ⟨ao, c, hv, rfl⟩ | ⟨b', off', c', hv, hS, hb, hp, hc, hm, hx⟩
  · simp only [Value.slice.injEq] at hv
    omega
  · simp only [Value.slice.injEq] at hv
    omega
/-- The four cells of an open file in a block of its own. -/
abbrev Four (X : Nat) (x : Opn) (w : World) : Prop := w.cell? ⟨X, 0, none⟩ = some (.int .i64 x.1) ∧ w.cell? ⟨X, 1, none⟩ = some (.int .i64 x.2.1) ∧ w.cell? ⟨X, 2, none⟩ = some (.int .i64 x.2.2.1) ∧ w.cell? ⟨X, 3, none⟩ = some (.int .i64 x.2.2.2)
theorem four_step {X : Nat} {x : Opn} {w w' : World} (h : Four X x w) (hb : Below w.heap.size w w') : Four X x w' := ⟨cell_step h.1 hb, cell_step h.2.1 hb, cell_step h.2.2.1 hb, cell_step h.2.2.2 hb⟩
theorem four_alloc {X : Nat} {x : Opn} {w : World} (h : Four X x w) (o : Obj) : Four X x (w.alloc o) := four_step h ((Below.refl _ _).alloc (Nat.le_refl _) _)
theorem four_drew {X : Nat} {x : Opn} {w : World} (h : Four X x w) : Four X x w.drew := h
theorem concat_open (w1 : World) (v1 v3 : Value) (l1 l3 : List Opn) (x : Opn) (h1 : AtW EO w1 v1 l1) (h3 : AtW EO w1 v3 l3) (hl : l1.length + 1 + l3.length ≤ 2199023255552) :
    Calls Try.prog 29 #[.slice (some ⟨w1.heap.size + 1 + 1, 0, none⟩) 3 3] (((w1.alloc (BO x)).alloc (BO x)).alloc (.cells #[v1, .slice (some ⟨w1.heap.size + 1, 0, none⟩) 1 1, v3] 22)).drew
      fun e w' => ∃ u, e = .returned u ∧ Row EO w' (w1.heap.size + 1 + 1 + 1) 27 u (l1 ++ [x] ++ l3) ∧ Below (((w1.alloc (BO x)).alloc (BO x)).alloc (.cells #[v1, .slice (some ⟨w1.heap.size + 1, 0, none⟩) 1 1, v3] 22)).drew.heap.size (((w1.alloc (BO x)).alloc (BO x)).alloc (.cells #[v1, .slice (some ⟨w1.heap.size + 1, 0, none⟩) 1 1, v3] 22)).drew w' := by
  have hh := heap_alloc_new ((w1.alloc (BO x)).alloc (BO x)) (.cells #[v1, .slice (some ⟨w1.heap.size + 1, 0, none⟩) 1 1, v3] 22)
  have z2 : ((w1.alloc (BO x)).alloc (BO x)).heap.size = w1.heap.size + 1 + 1 := by simp
  rw [z2] at hh
  have hb1 : Below w1.heap.size w1 (((w1.alloc (BO x)).alloc (BO x)).alloc (.cells #[v1, .slice (some ⟨w1.heap.size + 1, 0, none⟩) 1 1, v3] 22)) := (((Below.refl _ w1).alloc (Nat.le_refl _) _).alloc (by simp) _).alloc (by simp; omega) _
  have hx := (at_two w1 x).up ((Below.refl _ _).alloc (Nat.le_refl _) (.cells #[v1, .slice (some ⟨w1.heap.size + 1, 0, none⟩) 1 1, v3] 22))
  have z3 : (((w1.alloc (BO x)).alloc (BO x)).alloc (.cells #[v1, .slice (some ⟨w1.heap.size + 1, 0, none⟩) 1 1, v3] 22)).heap.size = w1.heap.size + 1 + 1 + 1 := by simp
  have k1 := h1.up hb1
  have k3 := h3.up hb1
  generalize ((w1.alloc (BO x)).alloc (BO x)).alloc (.cells #[v1, .slice (some ⟨w1.heap.size + 1, 0, none⟩) 1 1, v3] 22) = w3 at *
  have hc := concat_three (w1.heap.size + 1 + 1) v1 _ v3 l1 [x] l3 w3.drew (by show _ < w3.heap.size; omega) (by simp only [World.cell?]; rw [show w3.drew.heap[w1.heap.size + 1 + 1]? = w3.heap[w1.heap.size + 1 + 1]? from rfl, hh]; rfl) (by simp only [World.cell?]; rw [show w3.drew.heap[w1.heap.size + 1 + 1]? = w3.heap[w1.heap.size + 1 + 1]? from rfl, hh]; rfl) (by simp only [World.cell?]; rw [show w3.drew.heap[w1.heap.size + 1 + 1]? = w3.heap[w1.heap.size + 1 + 1]? from rfl, hh]; rfl) k1 hx k3 (by simpa using hl)
  refine hc.mono ?_
  rintro e w5 ⟨u, rfl, hr, hb⟩
  refine ⟨u, rfl, ?_, hb⟩
  rw [← z3]
  exact hr
set_option maxHeartbeats 4000000 in
theorem open_any (v : Value) (l : List Opn) (c no gen : Int) (w : World) (hv : AtW EO w v l) :
    Calls Try.prog 14 #[v, .int .i64 c, VH no gen] w fun e w' => ∃ p n q, e = .returned (.tuple #[.slice p n q, .int .i64 (Op.openFd l c no gen), .int .i64 (Op.openErr l c no gen)]) ∧ At EO (fun b => w.heap.size ≤ b) w' (.slice p n q) (Op.opened l c no gen) ∧ Below w.heap.size w w' := by
  have hv0 := hv
  obtain ⟨ao, cap, rfl, hm, -⟩ := hv0.open
  clear hv0
  unfold maxLen at hm
  obtain ⟨m, hlm⟩ : ∃ m, l.length = m := ⟨_, rfl⟩
  rw [hlm] at hm hv ⊢
  have HLM : Hid (l.length = m) := hlm
  clear hlm
  obtain ⟨W, hW⟩ : ∃ W, W = w.alloc (BH no gen) := ⟨_, rfl⟩
  have HB0 : Hid (Below w.heap.size w W) := by show Below w.heap.size w W; rw [hW]; exact (Below.refl _ w).alloc (Nat.le_refl _) _
  have HA0 : Hid (W.heap[w.heap.size]? = some (BH no gen)) := by show W.heap[w.heap.size]? = some (BH no gen); rw [hW]; exact heap_alloc_new w (BH no gen)
  have HV : Hid (AtW EO W (.slice ao m cap) l) := hv.up HB0.out
  have HV0 : Hid (AtW EO w (.slice ao m cap) l) := hv
  clear hv
  rcases Op.open_or l c no gen with ⟨he, ha, hr, hc, ho, hl⟩ | ⟨he, ha⟩ | ⟨he, ha, ho⟩ | ⟨he, ha, hr, ho, hl⟩
  · have HP : Hid (Op.opened l c no gen = l.take (Op.least 0 l) ++ [((Op.least 0 l : Int), c, no, gen)] ++ l.drop (Op.least 0 l)) := if_pos he
    have HF : Hid (Op.openFd l c no gen = (Op.least 0 l : Nat)) := if_pos he
    have hfm := Op.least_in l
    obtain ⟨f, hf⟩ : ∃ f, Op.least 0 l = f := ⟨_, rfl⟩
    have HLF : Hid (Op.least 0 l = f) := hf
    rw [hf] at HP HF hfm
    rw [he, HF.out]
    have HA : Hid (Op.ask l c = 0) := ha
    have HO : Hid (Ho no gen) := ho
    rw [HLM.out] at hfm hl
    have hcap : f ≤ cap := by
      by_cases h0 : 0 < m
      · have := HV0.out.capd h0
        omega
      · omega
    have hm16 : ((m : Int) == 16) = false := by rw [beq_eq_false_iff_ne]; omega
    obtain ⟨q1, c1, hs1⟩ : ∃ q cc, sliced ao 0 f cap EO.sz = .slice q f cc := ⟨_, _, rfl⟩
    obtain ⟨q2, n2, c2, hs2⟩ : ∃ q n cc, sliced ao f m cap EO.sz = .slice q n cc := ⟨_, _, _, rfl⟩
    have hsl1 : ∀ w', (Instr.slice 22 (.slice ao m cap) none (some (.int .i64 (f : Int))) none).run Try.prog w' = .ok (.slice q1 f c1) w' := fun w' => by rw [run_cut_h w' _ m cap f hcap, hs1]
    have hsl2 : ∀ w', (Instr.slice 22 (.slice ao m cap) (some (.int .i64 (f : Int))) none none).run Try.prog w' = .ok (.slice q2 n2 c2) w' := fun w' => by rw [run_cut_l w' _ m cap f hfm, hs2]
    have HCUT : Hid (∀ w', AtW EO w' (.slice ao m cap) l → AtW EO w' (.slice q1 f c1) (l.take f) ∧ AtW EO w' (.slice q2 n2 c2) (l.drop f)) := fun w' h => by
      have g1 := h.cut (lo := 0) (hi := f) (Nat.zero_le _) hfm
      have g2 := h.cut (lo := f) (hi := m) hfm (Nat.le_refl _)
      rw [hs1] at g1
      rw [hs2, ← HLM.out, List.take_length] at g2
      exact ⟨by simpa using g1, g2⟩
    have HKL : Hid ((l.take f).length + 1 + (l.drop f).length ≤ 2199023255552) := by
      show (l.take f).length + 1 + (l.drop f).length ≤ 2199023255552
      have := HLM.out
      simp only [List.length_take, List.length_drop]
      omega
    clear he ha hr hc ho hf hs1 hs2 hm
    go_enter Try.func14, Try.ntmps14
    go_wp2_with fail
    rw [← hW]
    refine (refuse_any _ l c _ HV.out).mono ?_
    rintro e w1 ⟨rfl, hb⟩
    rw [HA.out]
    have HB1 : Hid (Below w.heap.size w w1) := HB0.out.trans (hb.mono HB0.out.size)
    have HA1 : Hid (w1.heap[w.heap.size]? = some (BH no gen)) := (hb.block _ (Array.getElem?_eq_some_iff.1 HA0.out).1).trans HA0.out
    obtain ⟨z0, z1⟩ := hand_of HA1.out
    clear hb hW
    go_wp2_with fail
    refine (rof_yes _ _ _ HO.out).mono ?_
    rintro e w' ⟨rfl, rfl⟩
    have HB2 : Hid (Below w.heap.size w (w1.alloc (BH no gen))) := HB1.out.alloc HB1.out.size _
    have HA2 : Hid ((w1.alloc (BH no gen)).heap[w.heap.size]? = some (BH no gen)) := (Below.heap_alloc _ _ _ (Array.getElem?_eq_some_iff.1 HA1.out).1).trans HA1.out
    clear z0 z1
    generalize w1.alloc (BH no gen) = w2 at *
    go_wp2_with fail
    refine (leastFree_any _ l _ (HV0.out.up HB2.out)).mono ?_
    rintro e w3 ⟨rfl, hb⟩
    rw [HLF.out]
    have HB3 : Hid (Below w.heap.size w w3) := HB2.out.trans (hb.mono HB2.out.size)
    obtain ⟨z0, z1⟩ := hand_of ((hb.block _ (Array.getElem?_eq_some_iff.1 HA2.out).1).trans HA2.out)
    have HV3 : Hid (AtW EO w3 (.slice ao m cap) l) := HV0.out.up HB3.out
    have hs3 := HB3.out.size
    clear hb
    have HSS : Hid (Four w3.heap.size ((f : Int), c, no, gen) (w3.alloc (BO ((f : Int), c, no, gen)))) := (opn_of (heap_alloc_new w3 (BO ((f : Int), c, no, gen)))).1
    go_wp2_with fail
    go_region_held3 (fun w' => w'.cell? ⟨w3.heap.size, 0, none⟩ = some (.int .i64 (f : Int)) ∧ w'.cell? ⟨w3.heap.size, 1, none⟩ = some (.int .i64 c) ∧ w'.cell? ⟨w3.heap.size, 2, none⟩ = some (.int .i64 no) ∧ w'.cell? ⟨w3.heap.size, 3, none⟩ = some (.int .i64 gen)) (first | exact HSS.out | exact four_drew HSS.out | exact four_drew (four_alloc HSS.out _) | exact four_drew (four_alloc (four_alloc HSS.out _) _) | exact four_alloc HSS.out _ | exact four_alloc (four_alloc HSS.out _) _ | exact four_step (four_drew (four_alloc (four_alloc HSS.out _) _)) (by assumption)) (first
      | (go_at_call 29; refine (concat_open w3 _ _ (l.take f) (l.drop f) ((f : Int), c, no, gen) (HCUT.out _ HV3.out).1 (HCUT.out _ HV3.out).2 HKL.out).mono ?_; rintro e w5 ⟨u, rfl, hr, hb5⟩; obtain ⟨pu, nu, cu, rfl⟩ := hr.slice3))
    have HEND : Hid (At EO (fun b => w.heap.size ≤ b) w5 (.slice pu nu cu) (Op.opened l c no gen) ∧ Below w.heap.size w w5) := by
      have h := hr.at.imp (T := fun b => w.heap.size ≤ b) (fun b hb _ => by omega)
      rw [← HP.out] at h
      have h3 : Below w.heap.size w (((w3.alloc (BO ((f : Int), c, no, gen))).alloc (BO ((f : Int), c, no, gen))).alloc (.cells #[.slice q1 f c1, .slice (some ⟨w3.heap.size + 1, 0, none⟩) 1 1, .slice q2 n2 c2] 22)) := ((HB3.out.alloc (by omega) _).alloc (by simp; omega) _).alloc (by simp; omega) _
      exact ⟨h, h3.trans ((undrew hb5).mono h3.size)⟩
    clear hr hb5 z0 z1
    go_wp2
    go_ret3
    exact ⟨_, _, _, rfl, HEND.out.1, HEND.out.2⟩
  · have HP : Hid (Op.opened l c no gen = []) := if_neg (by rw [he]; exact ha)
    have HF : Hid (Op.openFd l c no gen = 0) := if_neg (by rw [he]; exact ha)
    obtain ⟨a, haa⟩ : ∃ a, Op.ask l c = a := ⟨_, rfl⟩
    have HA : Hid (Op.ask l c = a) := haa
    rw [haa] at he ha
    rw [he, HF.out]
    have hne : (a == 0) = false := beq_eq_false_iff_ne.2 ha
    clear he ha haa
    go_enter Try.func14, Try.ntmps14
    go_wp2_with fail
    rw [← hW]
    refine (refuse_any _ l c _ HV.out).mono ?_
    rintro e w1 ⟨rfl, hb⟩
    rw [HA.out]
    have HB1 : Hid (Below w.heap.size w w1) := HB0.out.trans (hb.mono HB0.out.size)
    clear hb hW
    go_wp2
    go_ret3
    exact ⟨_, _, _, rfl, by rw [HP.out]; exact At.nil, HB1.out⟩
  · have HP : Hid (Op.opened l c no gen = []) := if_neg (by rw [he]; decide)
    have HF : Hid (Op.openFd l c no gen = 0) := if_neg (by rw [he]; decide)
    have HA : Hid (Op.ask l c = 0) := ha
    have HO : Hid (¬ Ho no gen) := ho
    rw [he, HF.out]
    clear he ha ho
    go_enter Try.func14, Try.ntmps14
    go_wp2_with fail
    rw [← hW]
    refine (refuse_any _ l c _ HV.out).mono ?_
    rintro e w1 ⟨rfl, hb⟩
    rw [HA.out]
    have HB1 : Hid (Below w.heap.size w w1) := HB0.out.trans (hb.mono HB0.out.size)
    obtain ⟨z0, z1⟩ := hand_of ((hb.block _ (Array.getElem?_eq_some_iff.1 HA0.out).1).trans HA0.out)
    clear hb hW
    go_wp2_with fail
    refine (rof_no _ _ _ HO.out).mono ?_
    rintro e w' ⟨rfl, rfl⟩
    have HB2 : Hid (Below w.heap.size w (w1.alloc (BH no gen))) := HB1.out.alloc HB1.out.size _
    go_wp2
    go_ret3
    exact ⟨_, _, _, rfl, by rw [HP.out]; exact At.nil, HB2.out⟩
  · have HP : Hid (Op.opened l c no gen = []) := if_neg (by rw [he]; decide)
    have HF : Hid (Op.openFd l c no gen = 0) := if_neg (by rw [he]; decide)
    have HA : Hid (Op.ask l c = 0) := ha
    have HO : Hid (Ho no gen) := ho
    rw [he, HF.out]
    rw [HLM.out] at hl
    subst hl
    clear he ha ho hr
    go_enter Try.func14, Try.ntmps14
    go_wp2_with fail
    rw [← hW]
    refine (refuse_any _ l c _ HV.out).mono ?_
    rintro e w1 ⟨rfl, hb⟩
    rw [HA.out]
    have HB1 : Hid (Below w.heap.size w w1) := HB0.out.trans (hb.mono HB0.out.size)
    obtain ⟨z0, z1⟩ := hand_of ((hb.block _ (Array.getElem?_eq_some_iff.1 HA0.out).1).trans HA0.out)
    clear hb hW
    go_wp2_with fail
    refine (rof_yes _ _ _ HO.out).mono ?_
    rintro e w' ⟨rfl, rfl⟩
    have HB2 : Hid (Below w.heap.size w (w1.alloc (BH no gen))) := HB1.out.alloc HB1.out.size _
    go_wp2
    go_ret3
    exact ⟨_, _, _, rfl, by rw [HP.out]; exact At.nil, HB2.out⟩
end Go.Proofs.Ytlikcijoejgkkaa
