/-
  The statements' own do: a folder behind a step.
-/
import Derived.Test.YtlpnkcolpgodjaaPlainH
import Derived.Test.YtlpnkcolpgodjaaPages
namespace Go.Proofs.Ytlpnkcolpgodjaa
open Go.ChangeShapes Go.WideShapes Go.ChangeAt Go.RowKit Go.Deep
abbrev BS (what : Int) (s : ByteArray) : Obj := .cells #[.int .i64 what, .string s] 61
abbrev VS (what : Int) (s : ByteArray) : Value := .agg #[.int .i64 what, .string s]
theorem step_of {w : World} {A : Nat} {what : Int} {s : ByteArray} (h : w.heap[A]? = some (BS what s)) : w.cell? ⟨A, 0, none⟩ = some (.int .i64 what) ∧ w.cell? ⟨A, 1, none⟩ = some (.string s) := by
  constructor <;> simp [World.cell?, h]
abbrev Bx4 (n : Nat) (v : Value) (next what : Int) (s : ByteArray) (w : World) : Prop := w.heap[n]? = some (BD v next) ∧ w.heap[n + 1]? = some (BS what s) ∧ w.heap[n + 2]? = some BZD ∧ w.heap[n + 3]? = some (BD v next)
theorem Bx4.step {n : Nat} {v : Value} {next what : Int} {s : ByteArray} {w w' : World} (h : Bx4 n v next what s w) (hb : Below w.heap.size w w') : Bx4 n v next what s w' :=
  ⟨(hb.block _ (Array.getElem?_eq_some_iff.1 h.1).1).trans h.1, (hb.block _ (Array.getElem?_eq_some_iff.1 h.2.1).1).trans h.2.1, (hb.block _ (Array.getElem?_eq_some_iff.1 h.2.2.1).1).trans h.2.2.1, (hb.block _ (Array.getElem?_eq_some_iff.1 h.2.2.2).1).trans h.2.2.2⟩
theorem bx4_new (w : World) (v : Value) (next what : Int) (s : ByteArray) : Bx4 w.heap.size v next what s ((((w.alloc (BD v next)).alloc (BS what s)).alloc BZD).alloc (BD v next)) ∧ Below w.heap.size w ((((w.alloc (BD v next)).alloc (BS what s)).alloc BZD).alloc (BD v next)) := by
  have z1 : (w.alloc (BD v next)).heap.size = w.heap.size + 1 := by simp
  have z2 : ((w.alloc (BD v next)).alloc (BS what s)).heap.size = w.heap.size + 2 := by simp
  have z3 : (((w.alloc (BD v next)).alloc (BS what s)).alloc BZD).heap.size = w.heap.size + 3 := by simp
  have h1 := heap_alloc_new w (BD v next)
  have h2 := heap_alloc_new (w.alloc (BD v next)) (BS what s)
  have h3 := heap_alloc_new ((w.alloc (BD v next)).alloc (BS what s)) BZD
  have h4 := heap_alloc_new (((w.alloc (BD v next)).alloc (BS what s)).alloc BZD) (BD v next)
  rw [z1] at h2
  rw [z2] at h3
  rw [z3] at h4
  exact ⟨⟨(Below.heap_alloc _ _ _ (by omega)).trans ((Below.heap_alloc _ _ _ (by omega)).trans ((Below.heap_alloc _ _ _ (by omega)).trans h1)), (Below.heap_alloc _ _ _ (by omega)).trans ((Below.heap_alloc _ _ _ (by omega)).trans h2), (Below.heap_alloc _ _ _ (by omega)).trans h3, h4⟩, ((((Below.refl _ w).alloc (Nat.le_refl _) _).alloc (by simp) _).alloc (by simp; omega) _).alloc (by simp; omega) _⟩
namespace Fo
theorem stp_add0 {l : List Ent} {next what : Int} {s : ByteArray} (ha : adds what = true) (h : addErr l next s 1 1 = 0) : stp l next what s = (l ++ [(s, next + 1, 1, 1)], next + 1) := by unfold stp; rw [if_pos ha, if_pos h]
theorem stp_add1 {l : List Ent} {next what : Int} {s : ByteArray} (ha : adds what = true) (h : ¬ addErr l next s 1 1 = 0) : stp l next what s = (l, next) := by unfold stp; rw [if_pos ha, if_neg h]
theorem stp_rem0 {l : List Ent} {next what : Int} {s : ByteArray} (ha : adds what = false) (h : findErr l next s = 0) : stp l next what s = (l.eraseIdx (plc l next s).toNat, next) := by unfold stp; rw [if_neg (by rw [ha]; decide), if_pos h]
theorem stp_rem1 {l : List Ent} {next what : Int} {s : ByteArray} (ha : adds what = false) (h : ¬ findErr l next s = 0) : stp l next what s = (l, next) := by unfold stp; rw [if_neg (by rw [ha]; decide), if_neg h]
end Fo
set_option maxHeartbeats 4000000 in
theorem do_any {S : Nat → Prop} (v : Value) (l : List Ent) (next what : Int) (s : ByteArray) (w : World) (hv : At EE S w v l) (hs : ∀ x ∈ l, x.1.size ≤ maxLen) (hn : s.size ≤ maxLen) :
    Calls Try.prog 26 #[VD v next, VS what s] w fun e w' => ∃ p k q, e = .returned (VD (.slice p k q) (Fo.stp l next what s).2) ∧ At EE (fun b => S b ∨ w.heap.size ≤ b) w' (.slice p k q) (Fo.stp l next what s).1 ∧ Below w.heap.size w w' := by
  have hv0 := hv
  obtain ⟨ao, cap, rfl, hm, -⟩ := hv0.open
  clear hv0
  unfold maxLen at hm
  obtain ⟨m, hlm⟩ : ∃ m, l.length = m := ⟨_, rfl⟩
  rw [hlm] at hm hv ⊢
  clear hlm
  obtain ⟨W, hW⟩ : ∃ W, W = (((w.alloc (BD (.slice ao m cap) next)).alloc (BS what s)).alloc BZD).alloc (BD (.slice ao m cap) next) := ⟨_, rfl⟩
  obtain ⟨HX0, HB0⟩ : Hid (Bx4 w.heap.size (.slice ao m cap) next what s W) ∧ Hid (Below w.heap.size w W) := by rw [hW]; exact bx4_new w _ next what s
  have HV0 : Hid (At EE (fun b => S b ∧ b < w.heap.size) w (.slice ao m cap) l) := hv.imp fun b hS hb => ⟨hS, hb⟩
  have HV : Hid (AtW EE W (.slice ao m cap) l) := (hv.up HB0.out).wide
  have HS : Hid (∀ x ∈ l, x.1.size ≤ maxLen) := hs
  have HNN : Hid (s.size ≤ maxLen) := hn
  obtain ⟨⟨x0, x1⟩, -⟩ := dir_of HX0.out.1
  obtain ⟨s0, s1⟩ := step_of HX0.out.2.1
  have n1 : ¬ w.heap.size = w.heap.size + 3 := by omega
  have n2 : ¬ w.heap.size + 3 = w.heap.size + 2 := by omega
  have n3 : ¬ w.heap.size = w.heap.size + 2 := by omega
  clear hv hs hn
  by_cases w0 : what = 0
  · subst w0
    have HAD : Hid (Fo.adds 0 = true) := rfl
    by_cases he : Fo.addErr l next s 1 1 = 0
    · have HE : Hid (Fo.addErr l next s 1 1 = 0) := he
      have HST : Hid (Fo.stp l next 0 s = (l ++ [(s, next + 1, 1, 1)], next + 1)) := Fo.stp_add0 HAD.out he
      clear he
      go_enter Try.func26, Try.ntmps26
      go_wp2_with fail
      rw [← hW]
      refine (add_any _ l next s 1 1 _ HV.out HS.out HNN.out).mono ?_
      rintro e w2 ⟨u, rfl, hu, hb⟩
      rw [HE.out]
      rw [HE.out, if_pos rfl] at hu
      rw [if_pos rfl]
      obtain ⟨q2, c2, rfl, -, -⟩ := hu.open
      generalize hk2 : List.length _ = k2 at hu ⊢
      have HX2 : Hid (Bx4 w.heap.size (.slice ao m cap) next 0 s w2) := HX0.out.step hb
      have HB2 : Hid (Below w.heap.size w w2) := HB0.out.trans (hb.mono HB0.out.size)
      have hsz := HB2.out.size
      have hws : w.heap.size + 3 < W.heap.size := (Array.getElem?_eq_some_iff.1 HX0.out.2.2.2).1
      have HU2 : Hid (At EE (fun b => W.heap.size ≤ b) w2 (.slice q2 k2 c2) (l ++ [(s, next + 1, 1, 1)])) := hu
      obtain ⟨⟨y0, y1⟩, -⟩ := dir_of HX2.out.1
      obtain ⟨⟨z0, z1⟩, zf⟩ := dir_of (v := .slice none 0 0) (n := 0) HX2.out.2.2.1
      obtain ⟨⟨r0, r1⟩, rf⟩ := dir_of HX2.out.2.2.2
      clear hu hb hW x0 x1 s0 s1 hk2
      go_wp2
      (try simp only [Exit.inBlock, Exit.then])
      refine bodyPost_ret (v := VD (.slice q2 k2 c2) (next + 1)) ?_ rfl ⟨q2, k2, c2, by rw [HST.out], ?_, ?_⟩
      · rw [results_cell1 rfl]
        go_simp
      · rw [HST.out]
        refine At.imp (S := fun b => W.heap.size ≤ b) ?_ (fun b hb _ => .inr (by omega))
        repeat (refine At.setCell ?_ (by simp; omega) _)
        exact HU2.out
      · repeat (refine Below.setCell ?_ (by simp; omega) _)
        exact HB2.out
    · obtain ⟨fe, hfe⟩ : ∃ fe, Fo.addErr l next s 1 1 = fe := ⟨_, rfl⟩
      have HE : Hid (Fo.addErr l next s 1 1 = fe) := hfe
      have HST : Hid (Fo.stp l next 0 s = (l, next)) := Fo.stp_add1 HAD.out he
      rw [hfe] at he
      have hne : (fe == 0) = false := beq_eq_false_iff_ne.2 he
      clear he hfe
      go_enter Try.func26, Try.ntmps26
      go_wp2_with fail
      rw [← hW]
      refine (add_any _ l next s 1 1 _ HV.out HS.out HNN.out).mono ?_
      rintro e w2 ⟨u, rfl, hu, hb⟩
      rw [HE.out]
      have hne' : ¬ fe = 0 := beq_eq_false_iff_ne.1 hne
      rw [HE.out, if_neg hne'] at hu
      rw [if_neg hne']
      clear hne'
      obtain ⟨q2, c2, rfl, -, -⟩ := hu.open
      generalize hk2 : List.length _ = k2 at hu ⊢
      have HX2 : Hid (Bx4 w.heap.size (.slice ao m cap) next 0 s w2) := HX0.out.step hb
      have HB2 : Hid (Below w.heap.size w w2) := HB0.out.trans (hb.mono HB0.out.size)
      have hsz := HB2.out.size
      have hws : w.heap.size + 3 < W.heap.size := (Array.getElem?_eq_some_iff.1 HX0.out.2.2.2).1
      obtain ⟨⟨y0, y1⟩, -⟩ := dir_of HX2.out.1
      obtain ⟨⟨z0, z1⟩, zf⟩ := dir_of (v := .slice none 0 0) (n := 0) HX2.out.2.2.1
      obtain ⟨⟨r0, r1⟩, rf⟩ := dir_of HX2.out.2.2.2
      clear hu hb hW x0 x1 s0 s1 hk2
      go_wp2
      (try simp only [Exit.inBlock, Exit.then])
      refine bodyPost_ret (v := VD (.slice ao m cap) next) ?_ rfl ⟨ao, m, cap, by rw [HST.out], ?_, ?_⟩
      · rw [results_cell1 rfl]
        go_simp
      · rw [HST.out]
        refine At.imp (S := fun b => S b ∧ b < w.heap.size) ?_ (fun b hb _ => .inl hb.1)
        repeat (refine At.setCell ?_ (fun h => by have h9 := h.2; simp at h9; omega) _)
        exact HV0.out.up HB2.out
      · repeat (refine Below.setCell ?_ (by simp; omega) _)
        exact HB2.out
  by_cases w1 : what = 1
  · subst w1
    have HAD : Hid (Fo.adds 1 = true) := rfl
    by_cases he : Fo.addErr l next s 1 1 = 0
    · have HE : Hid (Fo.addErr l next s 1 1 = 0) := he
      have HST : Hid (Fo.stp l next 1 s = (l ++ [(s, next + 1, 1, 1)], next + 1)) := Fo.stp_add0 HAD.out he
      clear he
      go_enter Try.func26, Try.ntmps26
      go_wp2_with fail
      rw [← hW]
      refine (add_any _ l next s 1 1 _ HV.out HS.out HNN.out).mono ?_
      rintro e w2 ⟨u, rfl, hu, hb⟩
      rw [HE.out]
      rw [HE.out, if_pos rfl] at hu
      rw [if_pos rfl]
      obtain ⟨q2, c2, rfl, -, -⟩ := hu.open
      generalize hk2 : List.length _ = k2 at hu ⊢
      have HX2 : Hid (Bx4 w.heap.size (.slice ao m cap) next 1 s w2) := HX0.out.step hb
      have HB2 : Hid (Below w.heap.size w w2) := HB0.out.trans (hb.mono HB0.out.size)
      have hsz := HB2.out.size
      have hws : w.heap.size + 3 < W.heap.size := (Array.getElem?_eq_some_iff.1 HX0.out.2.2.2).1
      have HU2 : Hid (At EE (fun b => W.heap.size ≤ b) w2 (.slice q2 k2 c2) (l ++ [(s, next + 1, 1, 1)])) := hu
      obtain ⟨⟨y0, y1⟩, -⟩ := dir_of HX2.out.1
      obtain ⟨⟨z0, z1⟩, zf⟩ := dir_of (v := .slice none 0 0) (n := 0) HX2.out.2.2.1
      obtain ⟨⟨r0, r1⟩, rf⟩ := dir_of HX2.out.2.2.2
      clear hu hb hW x0 x1 s0 s1 hk2
      go_wp2
      (try simp only [Exit.inBlock, Exit.then])
      refine bodyPost_ret (v := VD (.slice q2 k2 c2) (next + 1)) ?_ rfl ⟨q2, k2, c2, by rw [HST.out], ?_, ?_⟩
      · rw [results_cell1 rfl]
        go_simp
      · rw [HST.out]
        refine At.imp (S := fun b => W.heap.size ≤ b) ?_ (fun b hb _ => .inr (by omega))
        repeat (refine At.setCell ?_ (by simp; omega) _)
        exact HU2.out
      · repeat (refine Below.setCell ?_ (by simp; omega) _)
        exact HB2.out
    · obtain ⟨fe, hfe⟩ : ∃ fe, Fo.addErr l next s 1 1 = fe := ⟨_, rfl⟩
      have HE : Hid (Fo.addErr l next s 1 1 = fe) := hfe
      have HST : Hid (Fo.stp l next 1 s = (l, next)) := Fo.stp_add1 HAD.out he
      rw [hfe] at he
      have hne : (fe == 0) = false := beq_eq_false_iff_ne.2 he
      clear he hfe
      go_enter Try.func26, Try.ntmps26
      go_wp2_with fail
      rw [← hW]
      refine (add_any _ l next s 1 1 _ HV.out HS.out HNN.out).mono ?_
      rintro e w2 ⟨u, rfl, hu, hb⟩
      rw [HE.out]
      have hne' : ¬ fe = 0 := beq_eq_false_iff_ne.1 hne
      rw [HE.out, if_neg hne'] at hu
      rw [if_neg hne']
      clear hne'
      obtain ⟨q2, c2, rfl, -, -⟩ := hu.open
      generalize hk2 : List.length _ = k2 at hu ⊢
      have HX2 : Hid (Bx4 w.heap.size (.slice ao m cap) next 1 s w2) := HX0.out.step hb
      have HB2 : Hid (Below w.heap.size w w2) := HB0.out.trans (hb.mono HB0.out.size)
      have hsz := HB2.out.size
      have hws : w.heap.size + 3 < W.heap.size := (Array.getElem?_eq_some_iff.1 HX0.out.2.2.2).1
      obtain ⟨⟨y0, y1⟩, -⟩ := dir_of HX2.out.1
      obtain ⟨⟨z0, z1⟩, zf⟩ := dir_of (v := .slice none 0 0) (n := 0) HX2.out.2.2.1
      obtain ⟨⟨r0, r1⟩, rf⟩ := dir_of HX2.out.2.2.2
      clear hu hb hW x0 x1 s0 s1 hk2
      go_wp2
      (try simp only [Exit.inBlock, Exit.then])
      refine bodyPost_ret (v := VD (.slice ao m cap) next) ?_ rfl ⟨ao, m, cap, by rw [HST.out], ?_, ?_⟩
      · rw [results_cell1 rfl]
        go_simp
      · rw [HST.out]
        refine At.imp (S := fun b => S b ∧ b < w.heap.size) ?_ (fun b hb _ => .inl hb.1)
        repeat (refine At.setCell ?_ (fun h => by have h9 := h.2; simp at h9; omega) _)
        exact HV0.out.up HB2.out
      · repeat (refine Below.setCell ?_ (by simp; omega) _)
        exact HB2.out
  have HAD : Hid (Fo.adds what = false) := by show Fo.adds what = false; simp [Fo.adds, w0, w1]
  have w0' : (what == 0) = false := beq_eq_false_iff_ne.2 w0
  have w1' : (what == 1) = false := beq_eq_false_iff_ne.2 w1
  clear w0 w1
  by_cases he : Fo.findErr l next s = 0
  · have HE : Hid (Fo.findErr l next s = 0) := he
    have HST : Hid (Fo.stp l next what s = (l.eraseIdx (Fo.plc l next s).toNat, next)) := Fo.stp_rem0 HAD.out he
    clear he
    go_enter Try.func26, Try.ntmps26
    go_wp2_with fail
    rw [← hW]
    refine (remove_any _ l next s _ HV.out HS.out HNN.out).mono ?_
    rintro e w2 ⟨u, rfl, hu, hb⟩
    rw [HE.out]
    rw [HE.out, if_pos rfl] at hu
    rw [if_pos rfl]
    obtain ⟨q2, c2, rfl, -, -⟩ := hu.open
    generalize hk2 : List.length _ = k2 at hu ⊢
    have HX2 : Hid (Bx4 w.heap.size (.slice ao m cap) next what s w2) := HX0.out.step hb
    have HB2 : Hid (Below w.heap.size w w2) := HB0.out.trans (hb.mono HB0.out.size)
    have hsz := HB2.out.size
    have hws : w.heap.size + 3 < W.heap.size := (Array.getElem?_eq_some_iff.1 HX0.out.2.2.2).1
    have HU2 : Hid (At EE (fun b => W.heap.size ≤ b) w2 (.slice q2 k2 c2) (l.eraseIdx (Fo.plc l next s).toNat)) := hu
    obtain ⟨⟨y0, y1⟩, -⟩ := dir_of HX2.out.1
    obtain ⟨⟨z0, z1⟩, zf⟩ := dir_of (v := .slice none 0 0) (n := 0) HX2.out.2.2.1
    obtain ⟨⟨r0, r1⟩, rf⟩ := dir_of HX2.out.2.2.2
    clear hu hb hW x0 x1 s0 s1 hk2
    go_wp2
    (try simp only [Exit.inBlock, Exit.then])
    refine bodyPost_ret (v := VD (.slice q2 k2 c2) next) ?_ rfl ⟨q2, k2, c2, by rw [HST.out], ?_, ?_⟩
    · rw [results_cell1 rfl]
      go_simp
    · rw [HST.out]
      refine At.imp (S := fun b => W.heap.size ≤ b) ?_ (fun b hb _ => .inr (by omega))
      repeat (refine At.setCell ?_ (by simp; omega) _)
      exact HU2.out
    · repeat (refine Below.setCell ?_ (by simp; omega) _)
      exact HB2.out
  · obtain ⟨fe, hfe⟩ : ∃ fe, Fo.findErr l next s = fe := ⟨_, rfl⟩
    have HE : Hid (Fo.findErr l next s = fe) := hfe
    have HST : Hid (Fo.stp l next what s = (l, next)) := Fo.stp_rem1 HAD.out he
    rw [hfe] at he
    have hne : (fe == 0) = false := beq_eq_false_iff_ne.2 he
    clear he hfe
    go_enter Try.func26, Try.ntmps26
    go_wp2_with fail
    rw [← hW]
    refine (remove_any _ l next s _ HV.out HS.out HNN.out).mono ?_
    rintro e w2 ⟨u, rfl, hu, hb⟩
    rw [HE.out]
    have hne' : ¬ fe = 0 := beq_eq_false_iff_ne.1 hne
    rw [HE.out, if_neg hne'] at hu
    rw [if_neg hne']
    clear hne'
    obtain ⟨q2, c2, rfl, -, -⟩ := hu.open
    generalize hk2 : List.length _ = k2 at hu ⊢
    have HX2 : Hid (Bx4 w.heap.size (.slice ao m cap) next what s w2) := HX0.out.step hb
    have HB2 : Hid (Below w.heap.size w w2) := HB0.out.trans (hb.mono HB0.out.size)
    have hsz := HB2.out.size
    have hws : w.heap.size + 3 < W.heap.size := (Array.getElem?_eq_some_iff.1 HX0.out.2.2.2).1
    obtain ⟨⟨y0, y1⟩, -⟩ := dir_of HX2.out.1
    obtain ⟨⟨z0, z1⟩, zf⟩ := dir_of (v := .slice none 0 0) (n := 0) HX2.out.2.2.1
    obtain ⟨⟨r0, r1⟩, rf⟩ := dir_of HX2.out.2.2.2
    clear hu hb hW x0 x1 s0 s1 hk2
    go_wp2
    (try simp only [Exit.inBlock, Exit.then])
    refine bodyPost_ret (v := VD (.slice ao m cap) next) ?_ rfl ⟨ao, m, cap, by rw [HST.out], ?_, ?_⟩
    · rw [results_cell1 rfl]
      go_simp
    · rw [HST.out]
      refine At.imp (S := fun b => S b ∧ b < w.heap.size) ?_ (fun b hb _ => .inl hb.1)
      repeat (refine At.setCell ?_ (fun h => by have h9 := h.2; simp at h9; omega) _)
      exact HV0.out.up HB2.out
    · repeat (refine Below.setCell ?_ (by simp; omega) _)
      exact HB2.out
end Go.Proofs.Ytlpnkcolpgodjaa
