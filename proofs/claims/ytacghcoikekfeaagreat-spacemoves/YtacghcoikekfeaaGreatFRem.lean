/-
  folder.Remove: what it answers.
-/
import Derived.Test.YtacghcoikekfeaaGreatFAdd
namespace Go.Proofs.YtacghcoikekfeaaGreat
open Go.ChangeShapes Go.WideShapes Go.ChangeAt Go.RowKit Go.Deep
set_option maxRecDepth 100000
abbrev Two (D : Nat) (v : Value) (n : Int) (w : World) : Prop := w.cell? ⟨D, 0, none⟩ = some v ∧ w.cell? ⟨D, 1, none⟩ = some (.int .i64 n)
theorem tw_step {D : Nat} {v : Value} {n : Int} {w w' : World} (h : Two D v n w) (hb : Below w.heap.size w w') : Two D v n w' := ⟨cell_step h.1 hb, cell_step h.2 hb⟩
theorem tw_alloc {D : Nat} {v : Value} {n : Int} {w : World} (h : Two D v n w) (o : Obj) : Two D v n (w.alloc o) := tw_step h ((Below.refl _ _).alloc (Nat.le_refl _) _)
theorem tw_drew {D : Nat} {v : Value} {n : Int} {w : World} (h : Two D v n w) : Two D v n w.drew := h
theorem tw_set {D : Nat} {v : Value} {n : Int} {w : World} (h : Two D v n w) {p : Addr} (hD : D ≠ p.block) (u : Value) : Two D v n (w.setCell p u) :=
  ⟨(cell_block (Below.heap_setCell _ _ _ _ hD)).trans h.1, (cell_block (Below.heap_setCell _ _ _ _ hD)).trans h.2⟩
theorem At.cut {α : Type} {E : Enc α} {S : Nat → Prop} {w : World} {b off m cap : Nat} {l : List α} (h : At E S w (.slice (some ⟨b, off, none⟩) m cap) l) {lo hi : Nat} (h1 : lo ≤ hi) (h2 : hi ≤ m) : At E S w (sliced (some ⟨b, off, none⟩) lo hi cap E.sz) ((l.take hi).drop lo) := by
  by_cases he : hi = lo
  · have hz : (l.take hi).drop lo = [] := by
      apply List.eq_nil_of_length_eq_zero
      simp
      omega
    unfold sliced
    rw [hz, show hi - lo = 0 by omega]
    exact .inl ⟨_, _, rfl, rfl⟩
  · rcases h with ⟨ao, c, hv, rfl⟩ | ⟨b', off', c', hv, hS, hb, hp, hc, hm, hx⟩
    · simp only [Value.slice.injEq] at hv
      omega
    · simp only [Value.slice.injEq, Option.some.injEq, Addr.mk.injEq, and_true] at hv
      obtain ⟨⟨rfl, rfl⟩, rfl, rfl⟩ := hv
      have hlen : ((l.take hi).drop lo).length = hi - lo := by simp; omega
      refine .inr ⟨b, off + lo * E.sz, cap - lo, ?_, hS, hb, by omega, by omega, by omega, fun j u hj => ?_⟩
      · rw [hlen]
        unfold sliced
        rw [if_neg (by omega)]
        simp [WideShapes.add_plain]
      · have e : l = l.take lo ++ ((l.take hi).drop lo ++ l.drop hi) := by
          have e1 : l.take lo = (l.take hi).take lo := by rw [List.take_take, Nat.min_eq_left h1]
          rw [← List.append_assoc, e1, List.take_append_drop, List.take_append_drop]
        have hlt := (List.getElem?_eq_some_iff.1 hj).1
        have hl0 : (E.flat (l.take lo)).length = lo * E.sz := by rw [E.flat_length, List.length_take, Nat.min_eq_left (by omega)]
        have := hx (lo * E.sz + j) u (by
          rw [e, E.flat_append, E.flat_append, List.getElem?_append_right (by omega), hl0, show lo * E.sz + j - lo * E.sz = j by omega, List.getElem?_append_left hlt]
          exact hj)
        rwa [← Nat.add_assoc] at this
set_option maxRecDepth 100000 in
theorem run_cut_h (w : World) (a : Option Addr) (m cap k : Nat) (hk : k ≤ cap) : (Instr.slice 63 (.slice a m cap) none (some (.int .i64 (k : Int))) none).run Tryz.prog w = .ok (sliced a 0 k cap EE.sz) w := by
  rw [run_slice_h (P := Tryz.prog) w 63 a m cap Tryz.underlying63 .i64 (k : Int) (by omega) (by omega)]
  rfl
set_option maxRecDepth 100000 in
theorem run_cut_l (w : World) (a : Option Addr) (m cap k : Nat) (hk : k + 1 ≤ m) : (Instr.slice 63 (.slice a m cap) (some (.int .i64 ((k : Int) + 1))) none none).run Tryz.prog w = .ok (sliced a (k + 1) m cap EE.sz) w := by
  rw [run_slice_l (P := Tryz.prog) w 63 a m cap Tryz.underlying63 .i64 ((k : Int) + 1) (by omega) (by omega), show ((k : Int) + 1).toNat = k + 1 by omega]
  rfl
theorem concat_rem (w1 : World) (v1 v2 : Value) (l1 l2 : List Ent) (h1 : AtW EE w1 v1 l1) (h2 : AtW EE w1 v2 l2) (hl : l1.length + l2.length ≤ 2199023255552) :
    Calls Tryz.prog 121 #[.slice (some ⟨w1.heap.size, 0, none⟩) 2 2] (w1.alloc (.cells #[v1, v2] 63)).drew
      fun e w' => ∃ u, e = .returned u ∧ Row EE w' (w1.heap.size + 1) 69 u (l1 ++ l2) ∧ Below (w1.alloc (.cells #[v1, v2] 63)).drew.heap.size (w1.alloc (.cells #[v1, v2] 63)).drew w' := by
  have hh := heap_alloc_new w1 (.cells #[v1, v2] 63)
  have z3 : (w1.alloc (.cells #[v1, v2] 63)).heap.size = w1.heap.size + 1 := by simp
  have hb : Below w1.heap.size w1 (w1.alloc (.cells #[v1, v2] 63)) := (Below.refl _ _).alloc (Nat.le_refl _) _
  have k1 := h1.up hb
  have k2 := h2.up hb
  generalize w1.alloc (.cells #[v1, v2] 63) = w3 at *
  have hc := concat_two w1.heap.size v1 v2 l1 l2 w3.drew (by show _ < w3.heap.size; omega) (by simp only [World.cell?]; rw [show w3.drew.heap[w1.heap.size]? = w3.heap[w1.heap.size]? from rfl, hh]; rfl) (by simp only [World.cell?]; rw [show w3.drew.heap[w1.heap.size]? = w3.heap[w1.heap.size]? from rfl, hh]; rfl) k1 k2 hl
  refine hc.mono ?_
  rintro e w5 ⟨u, rfl, hr, hb⟩
  refine ⟨u, rfl, ?_, hb⟩
  rw [← z3]
  exact hr
theorem Row.slice3 {α : Type} {E : Enc α} {w : World} {B : Nat} {e : TypeId} {v : Value} {ls : List α} (h : Row E w B e v ls) : ∃ p n c, v = .slice p n c := by
  obtain ⟨p, c, h⟩ := h.slice
  exact ⟨p, _, c, h⟩
theorem At.capd {α : Type} {E : Enc α} {S : Nat → Prop} {w : World} {a : Option Addr} {m cap : Nat} {l : List α} (h : At E S w (.slice a m cap) l) (h0 : 0 < m) : m ≤ cap ∧ cap ≤ maxLen := by
  rcases h with ⟨ao, c, hv, rfl⟩ | ⟨b', off', c', hv, hS, hb, hp, hc, hm, hx⟩
  · simp only [Value.slice.injEq] at hv
    omega
  · simp only [Value.slice.injEq] at hv
    omega
set_option maxHeartbeats 2000000 in
theorem remove_any (v : Value) (l : List Ent) (next : Int) (s : ByteArray) (w : World) (hv : AtW EE w v l) (hs : ∀ x ∈ l, x.1.size ≤ maxLen) (hn : s.size ≤ maxLen) :
    Calls Tryz.prog 93 #[VD v next, .string s] w fun e w' => ∃ u, e = .returned (.tuple #[VD u (if Fo.findErr l next s = 0 then next else 0), .int .i64 (Fo.findErr l next s)]) ∧
      At EE (fun b => w.heap.size ≤ b) w' u (if Fo.findErr l next s = 0 then l.eraseIdx (Fo.plc l next s).toNat else []) ∧ Below w.heap.size w w' := by
  have hv0 := hv
  obtain ⟨ao, cap, rfl, hm, hx⟩ := hv0.open
  clear hv0
  unfold maxLen at hm
  obtain ⟨m, hlm⟩ : ∃ m, l.length = m := ⟨_, rfl⟩
  rw [hlm] at hm hv ⊢
  have HLM : Hid (l.length = m) := hlm
  clear hlm
  obtain ⟨v, hvv⟩ : ∃ v, v = Value.slice ao m cap := ⟨_, rfl⟩
  rw [← hvv] at hv ⊢
  obtain ⟨W, hW⟩ : ∃ W, W = (w.alloc (BD v next)).alloc BZD := ⟨_, rfl⟩
  have HB0 : Hid (Below w.heap.size w W) := by show Below w.heap.size w W; rw [hW]; exact ((Below.refl _ w).alloc (Nat.le_refl _) _).alloc (by simp) _
  have HA0 : Hid (W.heap[w.heap.size + 1]? = some BZD) := by
    have := heap_alloc_new (w.alloc (BD v next)) BZD
    rw [← hW] at this
    rwa [show (w.alloc (BD v next)).heap.size = w.heap.size + 1 by simp] at this
  have hws : w.heap.size + 1 < W.heap.size := by rw [hW]; simp
  obtain ⟨a0, a1⟩ : W.cell? ⟨w.heap.size, 0, none⟩ = some v ∧ W.cell? ⟨w.heap.size, 1, none⟩ = some (.int .i64 next) := by
    have := box_cells w v next
    rw [hW]
    exact ⟨(cell_older (by simp) _ _).trans this.1, (cell_older (by simp) _ _).trans this.2⟩
  have HV : Hid (AtW EE W v l) := hv.up HB0.out
  have HS : Hid (∀ x ∈ l, x.1.size ≤ maxLen) := hs
  have HNN : Hid (s.size ≤ maxLen) := hn
  have HCAP : Hid (v = .slice ao m cap ∧ AtW EE w v l) := ⟨hvv, hv⟩
  clear hv hs hn
  rcases Fo.findErr_or l next s with ⟨k, x, he, hp, hxk, -, -, hr, -⟩ | ⟨hp, he⟩
  · have HE : Hid (Fo.findErr l next s = 0) := he
    have HP : Hid (Fo.plc l next s = k) := hp
    have hk := (List.getElem?_eq_some_iff.1 hxk).1
    rw [HLM.out] at hk
    obtain ⟨bb, off, rfl, -, hB, -⟩ := hx k x hxk
    have hcap := (show At EE (fun _ => True) w (.slice (some ⟨bb, off, none⟩) m cap) l from by have := HCAP.out; rw [← this.1]; exact this.2).capd (by omega)
    unfold maxLen at hcap
    have HRL : Hid (l.length ≤ 1099511627776) := by
      have := Fo.right_len hr
      have := hr.1.2
      show l.length ≤ 1099511627776
      omega
    rw [HE.out, HP.out, if_pos rfl, if_pos rfl]
    obtain ⟨q1, c1, hs1⟩ : ∃ q c, sliced (some ⟨bb, off, none⟩) 0 k cap EE.sz = .slice q k c := ⟨_, _, rfl⟩
    obtain ⟨q2, c2, hs2⟩ : ∃ q c, sliced (some ⟨bb, off, none⟩) (k + 1) m cap EE.sz = .slice q (m - (k + 1)) c := ⟨_, _, rfl⟩
    have hsl1 : ∀ w', (Instr.slice 63 (.slice (some ⟨bb, off, none⟩) m cap) none (some (.int .i64 (k : Int))) none).run Tryz.prog w' = .ok (.slice q1 k c1) w' := fun w' => by rw [run_cut_h w' _ m cap k (by omega), hs1]
    have hsl2 : ∀ w', (Instr.slice 63 (.slice (some ⟨bb, off, none⟩) m cap) (some (.int .i64 ((k : Int) + 1))) none none).run Tryz.prog w' = .ok (.slice q2 (m - (k + 1)) c2) w' := fun w' => by rw [run_cut_l w' _ m cap k (by omega), hs2]
    have HCUT : Hid (∀ w', AtW EE w' (.slice (some ⟨bb, off, none⟩) m cap) l → AtW EE w' (.slice q1 k c1) (l.take k) ∧ AtW EE w' (.slice q2 (m - (k + 1)) c2) (l.drop (k + 1))) := fun w' h => by
      have g1 := h.cut (lo := 0) (hi := k) (Nat.zero_le _) (by omega)
      have g2 := h.cut (lo := k + 1) (hi := m) (by omega) (Nat.le_refl _)
      rw [hs1] at g1
      rw [hs2, ← HLM.out, List.take_length] at g2
      rw [← HLM.out]
      exact ⟨by simpa using g1, g2⟩
    obtain ⟨n2, hn2⟩ : ∃ n2, m - (k + 1) = n2 := ⟨_, rfl⟩
    rw [hn2] at hsl2 HCUT
    have hle : l.length - (k + 1) + k ≤ l.length := by have := HLM.out; omega
    have HKL : Hid ((l.take k).length + (l.drop (k + 1)).length ≤ 2199023255552) := by
      show (l.take k).length + (l.drop (k + 1)).length ≤ 2199023255552
      have := HRL.out
      simp only [List.length_take, List.length_drop]
      omega
    have k4 : IntKind.i64.wrap ((k : Int) + 1) = (k : Int) + 1 := by rw [IntKind.wrap_i64]; omega
    clear hs1 hs2 hn2 hcap hle
    subst hvv
    clear he hp hx hxk hr
    go_enter Tryz.func93, Tryz.ntmps93
    go_wp2_with fail
    rw [← hW]
    refine (place_any _ l next s _ HV.out HS.out HNN.out).mono ?_
    rintro e w1 ⟨rfl, hb⟩
    rw [HE.out, HP.out]
    have HB1 : Hid (Below w.heap.size w w1) := HB0.out.trans (hb.mono HB0.out.size)
    have HA1 : Hid (w1.heap[w.heap.size + 1]? = some BZD) := (hb.block _ hws).trans HA0.out
    have HSS : Hid (Two w.heap.size (.slice (some ⟨bb, off, none⟩) m cap) next w1) := tw_step ⟨a0, a1⟩ hb
    have HV1 : Hid (AtW EE w1 (.slice (some ⟨bb, off, none⟩) m cap) l) := HV.out.up hb
    have hs1 := hb.size
    clear hb hW a0 a1
    have HZ : Hid (∀ w5, Below (w1.alloc (.cells #[.slice q1 k c1, .slice q2 n2 c2] 63)).drew.heap.size (w1.alloc (.cells #[.slice q1 k c1, .slice q2 n2 c2] 63)).drew w5 → w5.heap[w.heap.size + 1]? = some BZD) := fun w5 hb => by
      have hl := (Array.getElem?_eq_some_iff.1 HA1.out).1
      rw [hb.block _ (by show _ < Array.size _; simp; omega)]
      exact (Below.heap_alloc _ _ _ hl).trans HA1.out
    have hne1 : w.heap.size ≠ w.heap.size + 1 := by omega
    go_wp2_with fail
    go_region_held3 (fun w' => w'.cell? ⟨w.heap.size, 0, none⟩ = some (.slice (some ⟨bb, off, none⟩) m cap) ∧ w'.cell? ⟨w.heap.size, 1, none⟩ = some (.int .i64 next)) (first | exact HSS.out | exact tw_drew HSS.out | exact tw_drew (tw_alloc HSS.out _) | exact tw_alloc HSS.out _ | exact tw_step (tw_drew (tw_alloc HSS.out _)) (by assumption) | exact tw_set (tw_set (tw_step (tw_drew (tw_alloc HSS.out _)) (by assumption)) hne1 _) hne1 _) (first
      | (go_at_call 121; refine (concat_rem w1 _ _ _ _ (HCUT.out _ HV1.out).1 (HCUT.out _ HV1.out).2 HKL.out).mono ?_; rintro e w5 ⟨u, rfl, hr, hb5⟩; obtain ⟨pu, nu, cu, rfl⟩ := hr.slice3; obtain ⟨⟨z0, z1⟩, zf⟩ := dir_of (HZ.out w5 hb5)))
    have HEND : Hid (At EE (fun b => w1.heap.size ≤ b) w5 (.slice pu nu cu) (l.eraseIdx k) ∧ Below w.heap.size w w5 ∧ w.heap.size + 1 < w1.heap.size) := by
      have hl := (Array.getElem?_eq_some_iff.1 HA1.out).1
      have h := hr.at.imp (T := fun b => w1.heap.size ≤ b) (fun b hb _ => by omega)
      rw [← List.eraseIdx_eq_take_drop_succ] at h
      have h3 : Below w.heap.size w (w1.alloc (.cells #[.slice q1 k c1, .slice q2 n2 c2] 63)) := HB1.out.alloc (by omega) _
      exact ⟨h, h3.trans ((undrew hb5).mono h3.size), hl⟩
    clear hr hb5 hsl1 hsl2
    go_wp2
    (try simp only [Exit.inBlock, Exit.then])
    refine bodyPost_ret (v := .tuple #[VD (.slice pu nu cu) next, .int .i64 0]) ?_ rfl ⟨.slice pu nu cu, rfl, ?_, ?_⟩
    · rw [results_cell_tmp rfl]
      go_simp
    · have hS := HEND.out.2.2
      rw [show ((k : Int)).toNat = k from by omega]
      refine At.imp (S := fun b => w1.heap.size ≤ b) ?_ (fun b hb _ => by omega)
      repeat (refine At.setCellF ?_ (by simp; omega) _)
      exact HEND.out.1
    · repeat (refine Below.setCell ?_ (by simp) _)
      exact HEND.out.2.1
  · obtain ⟨fe, hfe⟩ : ∃ fe, Fo.findErr l next s = fe := ⟨_, rfl⟩
    have HE : Hid (Fo.findErr l next s = fe) := hfe
    have HP : Hid (Fo.plc l next s = 0) := hp
    rw [hfe] at he
    have hz : fe ≠ 0 := by omega
    rw [HE.out, if_neg hz, if_neg hz]
    have hz' : (fe == 0) = false := beq_eq_false_iff_ne.2 hz
    subst hvv
    clear hfe hz he hx hp
    go_enter Tryz.func93, Tryz.ntmps93
    go_wp2_with fail
    rw [← hW]
    refine (place_any _ l next s _ HV.out HS.out HNN.out).mono ?_
    rintro e w1 ⟨rfl, hb⟩
    rw [HE.out, HP.out]
    have HB1 : Hid (Below w.heap.size w w1) := HB0.out.trans (hb.mono HB0.out.size)
    have HA1 : Hid (w1.heap[w.heap.size + 1]? = some BZD) := (hb.block _ hws).trans HA0.out
    obtain ⟨⟨z0, z1⟩, zf⟩ := dir_of HA1.out
    clear hb hW a0 a1
    go_wp2
    (try simp only [Exit.inBlock, Exit.then])
    refine bodyPost_ret (v := .tuple #[VD (.slice none 0 0) 0, .int .i64 fe]) ?_ rfl ⟨.slice none 0 0, rfl, At.nil, ?_⟩
    · rw [results_cell_tmp rfl]
      go_simp
    · repeat (refine Below.setCell ?_ (by simp) _)
      exact HB1.out
end Go.Proofs.YtacghcoikekfeaaGreat
