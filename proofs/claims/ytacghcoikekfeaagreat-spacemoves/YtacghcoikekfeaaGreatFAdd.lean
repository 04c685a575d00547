/-
  folder.Add, folder.Remove: what they answer.
-/
import Derived.Test.YtacghcoikekfeaaGreatFAddA
namespace Go.Proofs.YtacghcoikekfeaaGreat
open Go.ChangeShapes Go.WideShapes Go.ChangeAt Go.RowKit Go.Deep
set_option maxRecDepth 100000
abbrev BZD : Obj := .cells #[.slice none 0 0, .int .i64 0] 100
theorem dir_of {w : World} {A : Nat} {v : Value} {n : Int} (h : w.heap[A]? = some (BD v n)) :
    (w.cell? ⟨A, 0, none⟩ = some v ∧ w.cell? ⟨A, 1, none⟩ = some (.int .i64 n)) ∧ ∀ j, w.frozen? ⟨A, j, none⟩ = false := by
  refine ⟨⟨?_, ?_⟩, fun j => ?_⟩ <;> simp [World.cell?, World.frozen?, h]
namespace Fo
theorem right_len {l : List Ent} {next : Int} (h : Right l next) : (l.length : Int) ≤ next := by
  have key : ∀ k : Nat, k ≤ l.length → (k : Int) ≤ lastC l k := fun k => by
    induction k with
    | zero => intro _; exact Int.le_refl _
    | succ k ih =>
      intro hk
      have hx : l[k]? = some l[k] := List.getElem?_eq_getElem (by omega)
      have hg := h.2.1 k (by omega) _ hx
      have := ih (by omega)
      rw [lastC_succ hx]
      omega
  have h1 := key l.length (Nat.le_refl _)
  have h2 := (lastC_bd h.2.1 (Nat.le_refl _) h.1.1).2
  omega
theorem add_zero {l : List Ent} {next : Int} {s : ByteArray} {no gen : Int} (h : addErr l next s no gen = 0) : Right l next ∧ Nm.ok s ∧ Ho no gen ∧ at' (called s) l = -1 ∧ next ≠ 1099511627776 := by
  rcases ask_or l next s with ⟨ha, hr, ho⟩ | ⟨ha, -⟩ | ⟨ha, -, -⟩
  · by_cases hh : Ho no gen
    · rcases at_or (called s) l with ⟨ht, -⟩ | ⟨k, x, ht, -, -, -⟩
      · by_cases hx : next = 1099511627776
        · rw [add_full ha hh ht hx] at h
          cases h
        · exact ⟨hr, ho, hh, ht, hx⟩
      · rw [add_has ha hh ht] at h
        cases h
    · rw [add_ho ha hh] at h
      cases h
  · rw [add_ask ha (by decide)] at h
    cases h
  · rw [add_ask ha (by decide)] at h
    cases h
end Fo
/-- The five cells that Add's last region reads. -/
abbrev Five (D X : Nat) (v : Value) (x : Ent) (w : World) : Prop := w.cell? ⟨D, 0, none⟩ = some v ∧ w.cell? ⟨X, 0, none⟩ = some (.string x.1) ∧ w.cell? ⟨X, 1, none⟩ = some (.int .i64 x.2.1) ∧ w.cell? ⟨X, 2, none⟩ = some (.int .i64 x.2.2.1) ∧ w.cell? ⟨X, 3, none⟩ = some (.int .i64 x.2.2.2)
theorem five_step {D X : Nat} {v : Value} {x : Ent} {w w' : World} (h : Five D X v x w) (hb : Below w.heap.size w w') : Five D X v x w' :=
  ⟨cell_step h.1 hb, cell_step h.2.1 hb, cell_step h.2.2.1 hb, cell_step h.2.2.2.1 hb, cell_step h.2.2.2.2 hb⟩
theorem five_alloc {D X : Nat} {v : Value} {x : Ent} {w : World} (h : Five D X v x w) (o : Obj) : Five D X v x (w.alloc o) := five_step h ((Below.refl _ _).alloc (Nat.le_refl _) _)
theorem five_drew {D X : Nat} {v : Value} {x : Ent} {w : World} (h : Five D X v x w) : Five D X v x w.drew := h
theorem three_boxes (w : World) (v : Value) (next no gen : Int) : Below w.heap.size w (((w.alloc (BD v next)).alloc (BHf no gen)).alloc BZD) ∧ w.heap.size + 2 < (((w.alloc (BD v next)).alloc (BHf no gen)).alloc BZD).heap.size ∧
    (((w.alloc (BD v next)).alloc (BHf no gen)).alloc BZD).cell? ⟨w.heap.size, 0, none⟩ = some v ∧ (((w.alloc (BD v next)).alloc (BHf no gen)).alloc BZD).cell? ⟨w.heap.size, 1, none⟩ = some (.int .i64 next) ∧
    (((w.alloc (BD v next)).alloc (BHf no gen)).alloc BZD).cell? ⟨w.heap.size + 1, 0, none⟩ = some (.int .i64 no) ∧ (((w.alloc (BD v next)).alloc (BHf no gen)).alloc BZD).cell? ⟨w.heap.size + 1, 1, none⟩ = some (.int .i64 gen) ∧
    (((w.alloc (BD v next)).alloc (BHf no gen)).alloc BZD).heap[w.heap.size + 2]? = some BZD := by
  obtain ⟨h0, h1, h2, h3⟩ := two_boxes w v next no gen
  refine ⟨(((Below.refl _ w).alloc (Nat.le_refl _) _).alloc (by simp) _).alloc (by simp; omega) _, by simp, (cell_older (by simp; omega) _ _).trans h0, (cell_older (by simp; omega) _ _).trans h1, (cell_older (by simp) _ _).trans h2, (cell_older (by simp) _ _).trans h3, ?_⟩
  have hh := heap_alloc_new ((w.alloc (BD v next)).alloc (BHf no gen)) BZD
  rwa [show ((w.alloc (BD v next)).alloc (BHf no gen)).heap.size = w.heap.size + 2 by simp] at hh
theorem five_set {D X : Nat} {v : Value} {x : Ent} {w : World} (h : Five D X v x w) {p : Addr} (hD : D ≠ p.block) (hX : X ≠ p.block) (u : Value) : Five D X v x (w.setCell p u) :=
  ⟨(cell_block (Below.heap_setCell _ _ _ _ hD)).trans h.1, (cell_block (Below.heap_setCell _ _ _ _ hX)).trans h.2.1, (cell_block (Below.heap_setCell _ _ _ _ hX)).trans h.2.2.1, (cell_block (Below.heap_setCell _ _ _ _ hX)).trans h.2.2.2.1, (cell_block (Below.heap_setCell _ _ _ _ hX)).trans h.2.2.2.2⟩
theorem At.setCellF {α : Type} {E : Enc α} {S : Nat → Prop} {w : World} {v : Value} {l : List α} (h : At E S w v l) {p : Addr} (hp : ¬ S p.block) (u : Value) : At E S (w.setCell p u) v l :=
  h.keep (by simp [World.setCell]) fun b hS _ => ⟨Below.heap_setCell _ _ _ _ (fun e => hp (e ▸ hS)), hS⟩
/-- One entry in a block of its own. -/
theorem at_one {w : World} {B : Nat} {x : Ent} (h : w.heap[B]? = some (BE x)) : AtW EE w (.slice (some ⟨B, 0, none⟩) 1 1) [x] := by
  refine .inr ⟨B, 0, 1, rfl, trivial, (Array.getElem?_eq_some_iff.1 h).1, by simp, by simp, by decide, fun j u hj => ?_⟩
  simp only [World.cell?, h, Nat.zero_add]
  simpa [Enc.flat, EE] using hj
theorem concat_add (w1 : World) (v : Value) (l : List Ent) (x : Ent) (hv : AtW EE w1 v l) (hl : l.length + 1 ≤ 2199023255552) :
    Calls Tryz.prog 121 #[.slice (some ⟨w1.heap.size + 1 + 1, 0, none⟩) 2 2] (((w1.alloc (BE x)).alloc (BE x)).alloc (.cells #[v, .slice (some ⟨w1.heap.size + 1, 0, none⟩) 1 1] 63)).drew
      fun e w' => ∃ u, e = .returned u ∧ Row EE w' (w1.heap.size + 1 + 1 + 1) 69 u (l ++ [x]) ∧ Below (((w1.alloc (BE x)).alloc (BE x)).alloc (.cells #[v, .slice (some ⟨w1.heap.size + 1, 0, none⟩) 1 1] 63)).drew.heap.size (((w1.alloc (BE x)).alloc (BE x)).alloc (.cells #[v, .slice (some ⟨w1.heap.size + 1, 0, none⟩) 1 1] 63)).drew w' := by
  have hh := heap_alloc_new ((w1.alloc (BE x)).alloc (BE x)) (.cells #[v, .slice (some ⟨w1.heap.size + 1, 0, none⟩) 1 1] 63)
  have h2 := heap_alloc_new (w1.alloc (BE x)) (BE x)
  have z1 : (w1.alloc (BE x)).heap.size = w1.heap.size + 1 := by simp
  have z2 : ((w1.alloc (BE x)).alloc (BE x)).heap.size = w1.heap.size + 1 + 1 := by simp
  rw [z1] at h2
  rw [z2] at hh
  have hb1 : Below w1.heap.size w1 (((w1.alloc (BE x)).alloc (BE x)).alloc (.cells #[v, .slice (some ⟨w1.heap.size + 1, 0, none⟩) 1 1] 63)) := (((Below.refl _ w1).alloc (Nat.le_refl _) _).alloc (by simp) _).alloc (by simp; omega) _
  have h2' := (Below.heap_alloc ((w1.alloc (BE x)).alloc (BE x)) (.cells #[v, .slice (some ⟨w1.heap.size + 1, 0, none⟩) 1 1] 63) (w1.heap.size + 1) (by rw [z2]; omega)).trans h2
  have z3 : (((w1.alloc (BE x)).alloc (BE x)).alloc (.cells #[v, .slice (some ⟨w1.heap.size + 1, 0, none⟩) 1 1] 63)).heap.size = w1.heap.size + 1 + 1 + 1 := by simp
  have hv3 := hv.up hb1
  have h1 := at_one h2'
  generalize ((w1.alloc (BE x)).alloc (BE x)).alloc (.cells #[v, .slice (some ⟨w1.heap.size + 1, 0, none⟩) 1 1] 63) = w3 at *
  have hc := concat_two (w1.heap.size + 1 + 1) v _ l [x] w3.drew (by show _ < w3.heap.size; omega) (by simp only [World.cell?]; rw [show w3.drew.heap[w1.heap.size + 1 + 1]? = w3.heap[w1.heap.size + 1 + 1]? from rfl, hh]; rfl) (by simp only [World.cell?]; rw [show w3.drew.heap[w1.heap.size + 1 + 1]? = w3.heap[w1.heap.size + 1 + 1]? from rfl, hh]; rfl) hv3 h1 (by simpa using hl)
  refine hc.mono ?_
  rintro e w5 ⟨u, rfl, hr, hb⟩
  refine ⟨u, rfl, ?_, hb⟩
  rw [← z3]
  exact hr
set_option maxHeartbeats 2000000 in
theorem add_any (v : Value) (l : List Ent) (next : Int) (s : ByteArray) (no gen : Int) (w : World) (hv : AtW EE w v l) (hs : ∀ x ∈ l, x.1.size ≤ maxLen) (hn : s.size ≤ maxLen) :
    Calls Tryz.prog 84 #[VD v next, .string s, VHf no gen] w fun e w' => ∃ u, e = .returned (.tuple #[VD u (if Fo.addErr l next s no gen = 0 then next + 1 else 0), .int .i64 (Fo.addErr l next s no gen)]) ∧
      At EE (fun b => w.heap.size ≤ b) w' u (if Fo.addErr l next s no gen = 0 then l ++ [(s, next + 1, no, gen)] else []) ∧ Below w.heap.size w w' := by
  have hv0 := hv
  obtain ⟨ao, cap, rfl, hm, -⟩ := hv0.open
  clear hv0
  unfold maxLen at hm
  obtain ⟨m, hlm⟩ : ∃ m, l.length = m := ⟨_, rfl⟩
  rw [hlm] at hm hv ⊢
  have HLM : Hid (l.length = m) := hlm
  clear hlm
  obtain ⟨v, hvv⟩ : ∃ v, v = Value.slice ao m cap := ⟨_, rfl⟩
  rw [← hvv] at hv ⊢
  obtain ⟨hb0, hws, a0, a1, a2, a3, a4⟩ := three_boxes w v next no gen
  obtain ⟨W, hW⟩ : ∃ W, W = ((w.alloc (BD v next)).alloc (BHf no gen)).alloc BZD := ⟨_, rfl⟩
  rw [← hW] at hb0 hws a0 a1 a2 a3 a4
  have HB0 : Hid (Below w.heap.size w W) := hb0
  have HA0 : Hid (W.heap[w.heap.size + 2]? = some BZD) := a4
  have HV : Hid (AtW EE W v l) := hv.up HB0.out
  have HS : Hid (∀ x ∈ l, x.1.size ≤ maxLen) := hs
  have HNN : Hid (s.size ≤ maxLen) := hn
  clear hv hs hn hb0 a4
  obtain ⟨fe, hfe⟩ : ∃ fe, Fo.addErr l next s no gen = fe := ⟨_, rfl⟩
  have HE : Hid (Fo.addErr l next s no gen = fe) := hfe
  rw [hfe]
  by_cases hz : fe = 0
  · have HR : Hid (Fo.Right l next ∧ next < 1099511627776) := by
      have h0 := Fo.add_zero (hfe.trans hz)
      have h1 := h0.1.1.2
      exact ⟨h0.1, by have := h0.2.2.2.2; omega⟩
    obtain ⟨hn0, hn1⟩ : 0 ≤ next ∧ next < 1099511627776 := ⟨HR.out.1.1.1, HR.out.2⟩
    subst hz
    subst hvv
    rw [if_pos rfl, if_pos rfl]
    clear hfe
    go_enter Tryz.func84, Tryz.ntmps84
    go_wp2_with fail
    rw [← hW]
    refine (refuseAdd_any _ l next s no gen _ HV.out HS.out HNN.out).mono ?_
    rintro e w1 ⟨rfl, hb⟩
    rw [HE.out]
    have HB1 : Hid (Below w.heap.size w w1) := HB0.out.trans (hb.mono HB0.out.size)
    have HA1 : Hid (w1.heap[w.heap.size + 2]? = some BZD) := (hb.block _ hws).trans HA0.out
    have e0 := cell_next a0 hb (by omega)
    have e1 := cell_next a1 hb (by omega)
    have e2 := cell_next a2 hb (by omega)
    have e3 := cell_next a3 hb (by omega)
    have HV1 : Hid (AtW EE w1 (.slice ao m cap) l) := HV.out.up hb
    have hs1 := hb.size
    clear hb hW a0 a1 a2 a3
    have HSS : Hid (Five w.heap.size w1.heap.size (.slice ao m cap) (s, next + 1, no, gen) (w1.alloc (BE (s, next + 1, no, gen)))) := by
      have hh := heap_alloc_new w1 (BE (s, next + 1, no, gen))
      refine ⟨(cell_older (by omega) _ _).trans e0, ?_, ?_, ?_, ?_⟩ <;> simp only [World.cell?, hh] <;> rfl
    have HRL : Hid (l.length ≤ 1099511627776) := by
      have := Fo.right_len HR.out.1
      show l.length ≤ 1099511627776
      omega
    have HZ : Hid (∀ w5, Below (((w1.alloc (BE (s, next + 1, no, gen))).alloc (BE (s, next + 1, no, gen))).alloc (.cells #[.slice ao m cap, .slice (some ⟨w1.heap.size + 1, 0, none⟩) 1 1] 63)).drew.heap.size (((w1.alloc (BE (s, next + 1, no, gen))).alloc (BE (s, next + 1, no, gen))).alloc (.cells #[.slice ao m cap, .slice (some ⟨w1.heap.size + 1, 0, none⟩) 1 1] 63)).drew w5 → w5.heap[w.heap.size + 2]? = some BZD) := fun w5 hb => by
      have hl := (Array.getElem?_eq_some_iff.1 HA1.out).1
      rw [hb.block _ (by show _ < Array.size _; simp; omega)]
      exact (Below.heap_alloc _ _ _ (by simp; omega)).trans ((Below.heap_alloc _ _ _ (by simp; omega)).trans ((Below.heap_alloc _ _ _ hl).trans HA1.out))
    have hne1 : w.heap.size ≠ w.heap.size + 2 := by omega
    have hne2 : w1.heap.size ≠ w.heap.size + 2 := by omega
    go_wp2_with fail
    go_region_held3 (fun w' => w'.cell? ⟨w.heap.size, 0, none⟩ = some (.slice ao m cap) ∧ w'.cell? ⟨w1.heap.size, 0, none⟩ = some (.string s) ∧ w'.cell? ⟨w1.heap.size, 1, none⟩ = some (.int .i64 (next + 1)) ∧ w'.cell? ⟨w1.heap.size, 2, none⟩ = some (.int .i64 no) ∧ w'.cell? ⟨w1.heap.size, 3, none⟩ = some (.int .i64 gen)) (first | exact HSS.out | exact five_drew HSS.out | exact five_drew (five_alloc HSS.out _) | exact five_drew (five_alloc (five_alloc HSS.out _) _) | exact five_alloc HSS.out _ | exact five_alloc (five_alloc HSS.out _) _ | exact five_step (five_drew (five_alloc (five_alloc HSS.out _) _)) (by assumption) | exact five_set (five_step (five_drew (five_alloc (five_alloc HSS.out _) _)) (by assumption)) hne1 hne2 _ | exact five_set (five_set (five_step (five_drew (five_alloc (five_alloc HSS.out _) _)) (by assumption)) hne1 hne2 _) hne1 hne2 _) (first
      | (go_at_call 121; refine (concat_add w1 _ l (s, next + 1, no, gen) HV1.out (by have := HLM.out; have := HRL.out; omega)).mono ?_; rintro e w5 ⟨u, rfl, hr, hb5⟩; obtain ⟨pu, cu, rfl⟩ := hr.slice; obtain ⟨⟨z0, z1⟩, zf⟩ := dir_of (HZ.out w5 hb5)))
    have HEND : Hid (At EE (fun b => w1.heap.size ≤ b) w5 (.slice pu (l.length + 1) cu) (l ++ [(s, next + 1, no, gen)]) ∧ Below w.heap.size w w5 ∧ w.heap.size + 2 < w1.heap.size) := by
      have hl := (Array.getElem?_eq_some_iff.1 HA1.out).1
      have h := hr.at.imp (T := fun b => w1.heap.size ≤ b) (fun b hb _ => by omega)
      rw [List.length_append, List.length_singleton] at h
      have h3 : Below w.heap.size w (((w1.alloc (BE (s, next + 1, no, gen))).alloc (BE (s, next + 1, no, gen))).alloc (.cells #[.slice ao m cap, .slice (some ⟨w1.heap.size + 1, 0, none⟩) 1 1] 63)) := ((HB1.out.alloc (by omega) _).alloc (by simp; omega) _).alloc (by simp; omega) _
      exact ⟨h, h3.trans ((undrew hb5).mono h3.size), hl⟩
    clear hr hb5 e0 e1 e2 e3
    go_wp2
    (try simp only [Exit.inBlock, Exit.then])
    refine bodyPost_ret (v := .tuple #[VD (.slice pu (l.length + 1) cu) (next + 1), .int .i64 0]) ?_ rfl ⟨.slice pu (l.length + 1) cu, rfl, ?_, ?_⟩
    · rw [results_cell_tmp rfl]
      go_simp
    · have hS := HEND.out.2.2
      refine At.imp (S := fun b => w1.heap.size ≤ b) ?_ (fun b hb _ => by omega)
      repeat (refine At.setCellF ?_ (by simp; omega) _)
      exact HEND.out.1
    · repeat (refine Below.setCell ?_ (by simp; omega) _)
      exact HEND.out.2.1
  · rw [if_neg hz, if_neg hz]
    have hz' : (fe == 0) = false := beq_eq_false_iff_ne.2 hz
    subst hvv
    clear hfe hz
    go_enter Tryz.func84, Tryz.ntmps84
    go_wp2_with fail
    rw [← hW]
    refine (refuseAdd_any _ l next s no gen _ HV.out HS.out HNN.out).mono ?_
    rintro e w1 ⟨rfl, hb⟩
    rw [HE.out]
    have HB1 : Hid (Below w.heap.size w w1) := HB0.out.trans (hb.mono HB0.out.size)
    have HA1 : Hid (w1.heap[w.heap.size + 2]? = some BZD) := (hb.block _ hws).trans HA0.out
    obtain ⟨⟨z0, z1⟩, zf⟩ := dir_of HA1.out
    clear hb hW a0 a1 a2 a3
    go_wp2
    (try simp only [Exit.inBlock, Exit.then])
    refine bodyPost_ret (v := .tuple #[VD (.slice none 0 0) 0, .int .i64 fe]) ?_ rfl ⟨.slice none 0 0, rfl, At.nil, ?_⟩
    · rw [results_cell_tmp rfl]
      go_simp
    · repeat (refine Below.setCell ?_ (by simp; omega) _)
      exact HB1.out
end Go.Proofs.YtacghcoikekfeaaGreat
