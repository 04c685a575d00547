/-
  The texts WItems, WRead, WState, Unpack, as one.
-/
import Derived.BigQuiet
import Derived.Deep.QuietTactic
import Derived.Test.YtkdhbjmpjbdobaaGreatDoorM10
/- WItems -/
namespace Go.Proofs.YtkdhbjmpjbdobaaGreatDoor
open Go.ChangeShapes Go.WideShapes Go.ChangeAt Go.RowKit Go.Deep Me
set_option maxRecDepth 100000
def itOf (s : ByteArray) : It := ⟨Pl.numVal (s.extract 0 6), Pl.numVal ((s.extract 6 s.size).extract 0 6), Pl.numVal (((s.extract 6 s.size).extract 6 (s.extract 6 s.size).size).extract 0 6), ((s.extract 6 s.size).extract 6 (s.extract 6 s.size).size).extract 6 ((s.extract 6 s.size).extract 6 (s.extract 6 s.size).size).size⟩
theorem itOf_eq {s r1 r2 r3 : ByteArray} {a0 a1 a2 : Int} (h : s.extract 6 s.size = r1 ∧ r1.extract 6 r1.size = r2 ∧ r2.extract 6 r2.size = r3) (h0 : Pl.numVal (s.extract 0 6) = a0) (h1 : Pl.numVal (r1.extract 0 6) = a1) (h2 : Pl.numVal (r2.extract 0 6) = a2) : itOf s = ⟨a0, a1, a2, r3⟩ := by
  unfold itOf
  rw [h.1, h.2.1, h.2.2, h0, h1, h2]
/-- The items, off a list of fields. -/
def pItems : List (Int × ByteArray) → Option (List It × List (Int × ByteArray))
  | [] => some ([], [])
  | (t, s) :: l => if t = 10 then (if 18 ≤ s.size then (pItems l).map fun q => (itOf s :: q.1, q.2) else none) else some ([], (t, s) :: l)
theorem pItems_skip {l : List (Int × ByteArray)} (hl : ∀ x, l.head? = some x → x.1 ≠ 10) : pItems l = some ([], l) := by
  match l, hl with
  | [], _ => rfl
  | (t, s) :: l, hl => simp only [pItems]; rw [if_neg (hl _ rfl)]
theorem infoM : (Tryz.prog.info? 137).map (fun i => (i.zero, i.size, i.bytes)) = some (some (.agg #[.int .i64 0, .int .i64 0, .int .i64 0, .string ⟨#[]⟩]), 4, 40) := by kernel_rfl
theorem at_oneIt {w : World} {A : Nat} {y : It} (h : w.heap[A]? = some (BI y)) : AtW EM w (.slice (some ⟨A, 0, none⟩) 1 1) [y] := by
  refine .inr ⟨A, 0, 1, rfl, trivial, (Array.getElem?_eq_some_iff.1 h).1, by simp, by simp, by unfold maxLen; omega, fun j u hj => ?_⟩
  obtain ⟨c0, c1, c2, c3⟩ := it_of h
  match j, hj with
  | 0, hj => simp [Enc.flat, EM] at hj; subst hj; exact c0
  | 1, hj => simp [Enc.flat, EM] at hj; subst hj; exact c1
  | 2, hj => simp [Enc.flat, EM] at hj; subst hj; exact c2
  | 3, hj => simp [Enc.flat, EM] at hj; subst hj; exact c3
structure Iv (w0 : World) (L : Nat) (l r : List (Int × ByteArray)) (acc : List It) (u : Value) (w : World) : Prop where
  lt : ∃ v, Lt w L v r
  row : Row EM w w0.heap.size 137 u acc
  gr : w0.grownBy w (some L)
  hL : L < w0.heap.size
  eq : pItems l = (pItems r).map fun q => (acc ++ q.1, q.2)
  sz : ∀ x ∈ r, x.2.size ≤ 65535
  len : acc.length + r.length ≤ 60000
theorem Iv.start {w : World} {L : Nat} {v : Value} {l : List (Int × ByteArray)} (h : Lt w L v l) (hs : ∀ x ∈ l, x.2.size ≤ 65535) (hl : l.length ≤ 60000) : Iv w L l l [] (.slice none 0 0) w :=
  ⟨⟨v, h⟩, Row.nil _ _ _ _, grown_refl _ _, h.box.lt, by cases pItems l <;> simp, hs, by simpa using hl⟩
/-- Behind a field's taking: the value and the item in boxes of their own. -/
structure Iw (w0 : World) (L X Z : Nat) (r : List (Int × ByteArray)) (acc : List It) (s : ByteArray) (y : It) (u : Value) (w : World) : Prop where
  lt : ∃ v, Lt w L v r
  row : Row EM w w0.heap.size 137 u acc
  gr : w0.grownBy w (some L)
  vb : Vb w X s
  bx : w.heap[Z]? = some (BI y)
  hL : L < w0.heap.size
  hX : w0.heap.size ≤ X
  hZ : X < Z
  hu : ∀ g, u.ownBlock = some g → g < X
theorem Iw.num {w0 w : World} {L X Z : Nat} {r : List (Int × ByteArray)} {acc : List It} {s : ByteArray} {y : It} {u : Value} {w' : World} {s' : ByteArray} (h : Iw w0 L X Z r acc s y u w) (hv : Vb w' X s') (hg : w.grownBy w' (some X)) : Iw w0 L X Z r acc s' y u w' := by
  have h1 := h.hL; have h2 := h.hX; have h3 := h.hZ
  obtain ⟨v, hl⟩ := h.lt
  exact ⟨⟨v, hl.grown (by omega) hg⟩, h.row.stay hg (fun e => by have := h.hu _ e; omega), grown_new h.gr (by omega) hg, hv, (hg.block Z (block_lt h.bx) (by simp; omega)).trans h.bx, h1, h2, h3, h.hu⟩
theorem Iw.put {w0 w : World} {L X Z : Nat} {r : List (Int × ByteArray)} {acc : List It} {s : ByteArray} {y : It} {u : Value} {y' : It} (h : Iw w0 L X Z r acc s y u w) (k : Nat) (p : Value) (hk : (#[.int .i64 y.v, .int .i64 y.c, .int .i64 y.r, .string y.b] : Array Value).setIfInBounds k p = #[.int .i64 y'.v, .int .i64 y'.c, .int .i64 y'.r, .string y'.b]) : Iw w0 L X Z r acc s y' u (w.setCell ⟨Z, k, none⟩ p) := by
  have h1 := h.hL; have h2 := h.hX; have h3 := h.hZ
  have hg := grown_set1 w Z k p
  obtain ⟨v, hl⟩ := h.lt
  exact ⟨⟨v, hl.grown (by omega) hg⟩, h.row.stay hg (fun e => by have := h.hu _ e; omega), grown_new h.gr (by omega) hg, h.vb.kept hg (by simp; omega), by rw [set_at h.bx, hk], h1, h2, h3, h.hu⟩
theorem Iw.up {w0 w : World} {L X Z : Nat} {r : List (Int × ByteArray)} {acc : List It} {s : ByteArray} {y : It} {u : Value} {w' : World} (h : Iw w0 L X Z r acc s y u w) (hb : Below w.heap.size w w') : Iw w0 L X Z r acc s y u w' := by
  obtain ⟨v, hl⟩ := h.lt
  exact ⟨⟨v, hl.up hb⟩, h.row.up hb, grown_trans h.gr (grown_of_below hb _), h.vb.kept (grown_of_below hb none) (by simp), blk h.bx hb, h.hL, h.hX, h.hZ, h.hu⟩
theorem Iw.cells {w0 w : World} {L X Z : Nat} {r : List (Int × ByteArray)} {acc : List It} {s : ByteArray} {y : It} {u : Value} (h : Iw w0 L X Z r acc s y u w) : w.cell? ⟨Z, 0, none⟩ = some (.int .i64 y.v) ∧ w.cell? ⟨Z, 1, none⟩ = some (.int .i64 y.c) ∧ w.cell? ⟨Z, 2, none⟩ = some (.int .i64 y.r) ∧ w.cell? ⟨Z, 3, none⟩ = some (.string y.b) ∧ w.frozen? ⟨Z, 0, none⟩ = false ∧ w.frozen? ⟨Z, 1, none⟩ = false ∧ w.frozen? ⟨Z, 2, none⟩ = false ∧ w.frozen? ⟨Z, 3, none⟩ = false :=
  ⟨cell_at h.bx 0, cell_at h.bx 1, cell_at h.bx 2, cell_at h.bx 3, fr_at h.bx 0, fr_at h.bx 1, fr_at h.bx 2, fr_at h.bx 3⟩
theorem Iw.app {w0 w : World} {L X Z : Nat} {r : List (Int × ByteArray)} {acc : List It} {s : ByteArray} {y : It} {u : Value} {w' : World} {acc' : List It} {u' : Value} (h : Iw w0 L X Z r acc s y u w) (hr : Row EM w' w0.heap.size 137 u' acc') (hg : w.grownBy w' u.ownBlock) : (∃ v, Lt w' L v r) ∧ Row EM w' w0.heap.size 137 u' acc' ∧ w0.grownBy w' (some L) := by
  have h1 := h.hL
  have hlow : ∀ k, k < w0.heap.size → some k ≠ u.ownBlock := fun k hk e => h.row.ne_low hk e.symm
  obtain ⟨v, hl⟩ := h.lt
  refine ⟨⟨v, hl.box.kept hg (hlow L h1), hl.row.below (C := L) ⟨hg.os, hg.tape, hg.output, hg.size, fun k hk => hg.block k (by have := hl.box.lt; omega) (hlow k (by omega))⟩ (Nat.le_refl _)⟩, hr, ?_⟩
  exact ⟨hg.os.trans h.gr.os, hg.tape.trans h.gr.tape, hg.output.trans h.gr.output, Nat.le_trans h.gr.size hg.size, fun k hk hne => (hg.block k (by have := h.gr.size; omega) (hlow k hk)).trans (h.gr.block k hk hne)⟩
set_option maxRecDepth 100000 in
set_option maxRecDepth 100000 in
set_option maxHeartbeats 4000000 in
theorem items_any (L : Nat) (v : Value) (l : List (Int × ByteArray)) (w : World) (h : Lt w L v l) (hs : ∀ x ∈ l, x.2.size ≤ 65535) (hl : l.length ≤ 60000) : Calls Tryz.prog 124 #[.pointer (some ⟨L, 0, none⟩)] w (Rd L w (pItems l) fun a u w' => Row EM w' w.heap.size 137 u a) := by
  have H0 : Hid (Iv w L l l [] (.slice none 0 0) w) := Iv.start h hs hl
  obtain ⟨i0, hi, hz0, hz1, hz2⟩ := info_parts infoM
  clear h hs hl
  go_enter Tryz.func124, Tryz.ntmps124
  go_wp2
  go_loopw [3] (fun u wr => ∃ (r : List (Int × ByteArray)) (acc : List It) (pp : Option Addr) (jj q : Nat), u = .slice pp jj q ∧ Hid (Iv w L l r acc (.slice pp jj q) wr)) (fun _ wr => leftOf L wr)
  case atStart => exact ⟨l, [], none, 0, 0, rfl, H0.out⟩
  case round =>
    obtain ⟨r, acc, pp, jj, q, rfl, HR⟩ := hrel
    clear H0
    obtain ⟨v1, hv1⟩ := HR.out.lt
    have HV : Hid (Lt wr L v1 r) := hv1
    have hlf := hv1.left
    have HLF : Hid (leftOf L wr = r.length) := hlf
    clear hv1 hlf
    by_cases hd : ∀ x, r.head? = some x → x.1 ≠ 10
    · have HP : Hid (pItems l = some (acc, r)) := by
        show _ = _
        rw [HR.out.eq, pItems_skip hd]
        simp
      have HD : Hid (∀ x, r.head? = some x → x.1 ≠ 10) := hd
      clear hd
      go_wp2_with fail
      refine (next_skip 10 L v1 r _ HV.out HD.out).mono ?_
      rintro e w1 ⟨rfl, hb1⟩
      have HB : Hid (Below wr.heap.size wr (w1.alloc (BV ⟨#[]⟩))) := bup hb1 (below_alloc _ _)
      clear hb1
      go_wp2
      go_ret
      refine ⟨grown_trans HR.out.gr (grown_of_below HB.out _), ?_, fun h => by rw [HP.out] at h; cases h⟩
      rintro a r9 e
      rw [HP.out] at e
      simp only [Option.some.injEq, Prod.mk.injEq] at e
      obtain ⟨rfl, rfl⟩ := e
      exact ⟨⟨_, rfl, HR.out.row.up HB.out⟩, v1, HV.out.up HB.out⟩
    · obtain ⟨s, r', hrr⟩ : ∃ s r', r = (10, s) :: r' := by
        match r, hd with
        | [], hd => exact absurd (by simp) hd
        | (t, s) :: r', hd =>
          by_cases ht : t = 10
          · exact ⟨s, r', by rw [ht]⟩
          · exact absurd (by intro x hx; simp at hx; subst hx; exact ht) hd
      subst hrr
      clear hd
      have hss : s.size ≤ 65535 := HR.out.sz _ (List.mem_cons_self ..)
      have HNN : Hid (¬ 18 ≤ s.size → pItems l = none) := fun h => by
        rw [HR.out.eq]
        simp only [pItems, if_true]
        rw [if_neg h]
        rfl
      have HYY : Hid (18 ≤ s.size → pItems l = (pItems r').map fun q => ((acc ++ [itOf s]) ++ q.1, q.2)) := fun h => by
        rw [HR.out.eq]
        simp only [pItems, if_true]
        rw [if_pos h]
        cases pItems r' <;> simp
      have HLN : Hid (acc.length + (r'.length + 1) ≤ 60000) := HR.out.len
      obtain ⟨r1, hr1⟩ : ∃ r, s.extract 6 s.size = r := ⟨_, rfl⟩
      obtain ⟨r2, hr2⟩ : ∃ r, r1.extract 6 r1.size = r := ⟨_, rfl⟩
      obtain ⟨r3, hr3⟩ : ∃ r, r2.extract 6 r2.size = r := ⟨_, rfl⟩
      have HRR : Hid (s.extract 6 s.size = r1 ∧ r1.extract 6 r1.size = r2 ∧ r2.extract 6 r2.size = r3) := ⟨hr1, hr2, hr3⟩
      have h1 : r1.size = s.size - 6 := by rw [← hr1, ByteArray.size_extract]; omega
      have h2 : r2.size = r1.size - 6 := by rw [← hr2, ByteArray.size_extract]; omega
      have hsz : s.size ≤ 65535 ∧ r1.size = s.size - 6 ∧ r2.size = s.size - 6 - 6 := ⟨hss, h1, by omega⟩
      clear hr1 hr2 hr3 h1 h2 hss
      go_wp2_with fail
      refine (next_yes 10 s r' L v1 _ HV.out).mono ?_
      rintro e w1 ⟨rfl, ⟨v2, hl2⟩, hg1⟩
      have M0 : Hid (Iw w L w1.heap.size (w1.heap.size + 1) r' acc s ⟨0, 0, 0, ⟨#[]⟩⟩ (.slice pp jj q) ((w1.alloc (BV s)).alloc (BI ⟨0, 0, 0, ⟨#[]⟩⟩))) := by
        have h1 := HR.out.hL
        have h2 := grown_trans HR.out.gr hg1
        have hrow := HR.out.row.stay hg1 (HR.out.row.ne_low h1)
        have hn := heap_alloc_new (w1.alloc (BV s)) (BI ⟨0, 0, 0, ⟨#[]⟩⟩)
        have hsz : (w1.alloc (BV s)).heap.size = w1.heap.size + 1 := by simp
        rw [hsz] at hn
        exact ⟨⟨v2, (hl2.up (below_alloc _ _)).up (below_alloc _ _)⟩, (hrow.up (below_alloc _ _)).up (below_alloc _ _), grown_trans (grown_trans h2 (grown_of_below (below_alloc _ _) _)) (grown_of_below (below_alloc _ _) _), (Boxed.new _ _ _).alloc _, hn, h1, h2.size, by omega, fun g hg => (hrow.lt g hg).2⟩
      clear hg1 hl2
      by_cases h6 : s.size < 6
      · have HSZ : Hid (s.size < 6) := h6
        have HP : Hid (pItems l = none) := HNN.out (by omega)
        clear h6 hsz
        go_wp2_with fail
        refine (vnum_no s 6 _ _ M0.out.vb (by have := HSZ.out; omega)).mono ?_
        rintro e x0 ⟨rfl, hb⟩
        have HG : Hid (w.grownBy x0 (some L)) := grown_trans M0.out.gr (grown_of_below hb _)
        clear hb
        go_wp2
        simp only [bodyPost]
        refine ⟨by first | trivial | rfl, HG.out, ?_, fun _ => rfl⟩
        rintro a r9 e
        rw [HP.out] at e
        cases e
      by_cases h12 : s.size < 12
      · have HSZ : Hid ((s.size ≤ 65535 ∧ r1.size = s.size - 6 ∧ r2.size = s.size - 6 - 6) ∧ 6 ≤ s.size ∧ s.size < 12) := ⟨hsz, by omega, h12⟩
        have HP : Hid (pItems l = none) := HNN.out (by omega)
        clear h6 h12 hsz
        go_wp2_with fail
        skip
        refine (vnum_yes s 6 _ _ M0.out.vb (by have := HSZ.out; omega) (by have := HSZ.out; omega)).mono ?_
        rintro e x0 ⟨rfl, hv, hg⟩
        rw [HRR.out.1] at hv
        obtain ⟨a0, ha0⟩ : ∃ a, Pl.numVal (s.extract 0 6) = a := ⟨_, rfl⟩
        have HA0 : Hid (Pl.numVal (s.extract 0 6) = a0) := ha0
        rw [ha0]
        have N0 := M0.out.num hv hg
        obtain ⟨m0, m1, m2, m3, f0, f1, f2, f3⟩ := N0.cells
        have M1 : Hid (Iw w L w1.heap.size (w1.heap.size + 1) r' acc r1 ⟨a0, 0, 0, ⟨#[]⟩⟩ (.slice pp jj q) (x0.setCell ⟨w1.heap.size + 1, 0, none⟩ (.int .i64 a0))) := N0.put 0 _ rfl
        clear hv hg N0 M0 ha0
        go_wp2_with fail
        refine (vnum_no r1 6 _ _ M1.out.vb (by have := HSZ.out; omega)).mono ?_
        rintro e x1 ⟨rfl, hb⟩
        have HG : Hid (w.grownBy x1 (some L)) := grown_trans M1.out.gr (grown_of_below hb _)
        clear hb
        go_wp2
        simp only [bodyPost]
        refine ⟨by first | trivial | rfl, HG.out, ?_, fun _ => rfl⟩
        rintro a r9 e
        rw [HP.out] at e
        cases e
      by_cases h18 : s.size < 18
      · have HSZ : Hid ((s.size ≤ 65535 ∧ r1.size = s.size - 6 ∧ r2.size = s.size - 6 - 6) ∧ 12 ≤ s.size ∧ s.size < 18) := ⟨hsz, by omega, h18⟩
        have HP : Hid (pItems l = none) := HNN.out (by omega)
        clear h6 h12 h18 hsz
        go_wp2_with fail
        skip
        refine (vnum_yes s 6 _ _ M0.out.vb (by have := HSZ.out; omega) (by have := HSZ.out; omega)).mono ?_
        rintro e x0 ⟨rfl, hv, hg⟩
        rw [HRR.out.1] at hv
        obtain ⟨a0, ha0⟩ : ∃ a, Pl.numVal (s.extract 0 6) = a := ⟨_, rfl⟩
        have HA0 : Hid (Pl.numVal (s.extract 0 6) = a0) := ha0
        rw [ha0]
        have N0 := M0.out.num hv hg
        obtain ⟨m0, m1, m2, m3, f0, f1, f2, f3⟩ := N0.cells
        have M1 : Hid (Iw w L w1.heap.size (w1.heap.size + 1) r' acc r1 ⟨a0, 0, 0, ⟨#[]⟩⟩ (.slice pp jj q) (x0.setCell ⟨w1.heap.size + 1, 0, none⟩ (.int .i64 a0))) := N0.put 0 _ rfl
        clear hv hg N0 M0 ha0
        go_wp2_with fail
        clear m0 m1 m2 m3 f0 f1 f2 f3
        refine (vnum_yes r1 6 _ _ M1.out.vb (by have := HSZ.out; omega) (by have := HSZ.out; omega)).mono ?_
        rintro e x1 ⟨rfl, hv, hg⟩
        rw [HRR.out.2.1] at hv
        obtain ⟨a1, ha1⟩ : ∃ a, Pl.numVal (r1.extract 0 6) = a := ⟨_, rfl⟩
        have HA1 : Hid (Pl.numVal (r1.extract 0 6) = a1) := ha1
        rw [ha1]
        have N1 := M1.out.num hv hg
        obtain ⟨m0, m1, m2, m3, f0, f1, f2, f3⟩ := N1.cells
        have M2 : Hid (Iw w L w1.heap.size (w1.heap.size + 1) r' acc r2 ⟨a0, a1, 0, ⟨#[]⟩⟩ (.slice pp jj q) (x1.setCell ⟨w1.heap.size + 1, 1, none⟩ (.int .i64 a1))) := N1.put 1 _ rfl
        clear hv hg N1 M1 ha1
        go_wp2_with fail
        refine (vnum_no r2 6 _ _ M2.out.vb (by have := HSZ.out; omega)).mono ?_
        rintro e x2 ⟨rfl, hb⟩
        have HG : Hid (w.grownBy x2 (some L)) := grown_trans M2.out.gr (grown_of_below hb _)
        clear hb
        go_wp2
        simp only [bodyPost]
        refine ⟨by first | trivial | rfl, HG.out, ?_, fun _ => rfl⟩
        rintro a r9 e
        rw [HP.out] at e
        cases e
      have HSZ : Hid ((s.size ≤ 65535 ∧ r1.size = s.size - 6 ∧ r2.size = s.size - 6 - 6) ∧ 18 ≤ s.size) := ⟨hsz, by omega⟩
      clear h6 h12 h18 hsz
      go_wp2_with fail
      skip
      refine (vnum_yes s 6 _ _ M0.out.vb (by have := HSZ.out; omega) (by have := HSZ.out; omega)).mono ?_
      rintro e x0 ⟨rfl, hv, hg⟩
      rw [HRR.out.1] at hv
      obtain ⟨a0, ha0⟩ : ∃ a, Pl.numVal (s.extract 0 6) = a := ⟨_, rfl⟩
      have HA0 : Hid (Pl.numVal (s.extract 0 6) = a0) := ha0
      rw [ha0]
      have N0 := M0.out.num hv hg
      obtain ⟨m0, m1, m2, m3, f0, f1, f2, f3⟩ := N0.cells
      have M1 : Hid (Iw w L w1.heap.size (w1.heap.size + 1) r' acc r1 ⟨a0, 0, 0, ⟨#[]⟩⟩ (.slice pp jj q) (x0.setCell ⟨w1.heap.size + 1, 0, none⟩ (.int .i64 a0))) := N0.put 0 _ rfl
      clear hv hg N0 M0 ha0
      go_wp2_with fail
      clear m0 m1 m2 m3 f0 f1 f2 f3
      refine (vnum_yes r1 6 _ _ M1.out.vb (by have := HSZ.out; omega) (by have := HSZ.out; omega)).mono ?_
      rintro e x1 ⟨rfl, hv, hg⟩
      rw [HRR.out.2.1] at hv
      obtain ⟨a1, ha1⟩ : ∃ a, Pl.numVal (r1.extract 0 6) = a := ⟨_, rfl⟩
      have HA1 : Hid (Pl.numVal (r1.extract 0 6) = a1) := ha1
      rw [ha1]
      have N1 := M1.out.num hv hg
      obtain ⟨m0, m1, m2, m3, f0, f1, f2, f3⟩ := N1.cells
      have M2 : Hid (Iw w L w1.heap.size (w1.heap.size + 1) r' acc r2 ⟨a0, a1, 0, ⟨#[]⟩⟩ (.slice pp jj q) (x1.setCell ⟨w1.heap.size + 1, 1, none⟩ (.int .i64 a1))) := N1.put 1 _ rfl
      clear hv hg N1 M1 ha1
      go_wp2_with fail
      clear m0 m1 m2 m3 f0 f1 f2 f3
      refine (vnum_yes r2 6 _ _ M2.out.vb (by have := HSZ.out; omega) (by have := HSZ.out; omega)).mono ?_
      rintro e x2 ⟨rfl, hv, hg⟩
      rw [HRR.out.2.2] at hv
      obtain ⟨a2, ha2⟩ : ∃ a, Pl.numVal (r2.extract 0 6) = a := ⟨_, rfl⟩
      have HA2 : Hid (Pl.numVal (r2.extract 0 6) = a2) := ha2
      rw [ha2]
      have N2 := M2.out.num hv hg
      obtain ⟨m0, m1, m2, m3, f0, f1, f2, f3⟩ := N2.cells
      have M3 : Hid (Iw w L w1.heap.size (w1.heap.size + 1) r' acc r3 ⟨a0, a1, a2, ⟨#[]⟩⟩ (.slice pp jj q) (x2.setCell ⟨w1.heap.size + 1, 2, none⟩ (.int .i64 a2))) := N2.put 2 _ rfl
      clear hv hg N2 M2 ha2
      have HIO : Hid (itOf s = ⟨a0, a1, a2, r3⟩) := itOf_eq HRR.out HA0.out HA1.out HA2.out
      have hvc := M3.out.vb.cell
      obtain ⟨k0, k1, k2, k3, j0, j1, j2, j3⟩ := M3.out.cells
      have M4 : Hid (Iw w L w1.heap.size (w1.heap.size + 1) r' acc r3 ⟨a0, a1, a2, r3⟩ (.slice pp jj q) ((x2.setCell ⟨w1.heap.size + 1, 2, none⟩ (.int .i64 a2)).setCell ⟨w1.heap.size + 1, 3, none⟩ (.string r3))) := M3.out.put 3 _ rfl
      have M5 : Hid (Iw w L w1.heap.size (w1.heap.size + 1) r' acc r3 ⟨a0, a1, a2, r3⟩ (.slice pp jj q) (((x2.setCell ⟨w1.heap.size + 1, 2, none⟩ (.int .i64 a2)).setCell ⟨w1.heap.size + 1, 3, none⟩ (.string r3)).alloc (BI ⟨a0, a1, a2, r3⟩))) := M4.out.up (below_alloc _ _)
      have HO : Hid (AtW EM (((x2.setCell ⟨w1.heap.size + 1, 2, none⟩ (.int .i64 a2)).setCell ⟨w1.heap.size + 1, 3, none⟩ (.string r3)).alloc (BI ⟨a0, a1, a2, r3⟩)) (.slice (some ⟨x2.heap.size, 0, none⟩) 1 1) [⟨a0, a1, a2, r3⟩]) := by
        have hh := heap_alloc_new ((x2.setCell ⟨w1.heap.size + 1, 2, none⟩ (.int .i64 a2)).setCell ⟨w1.heap.size + 1, 3, none⟩ (.string r3)) (BI ⟨a0, a1, a2, r3⟩)
        have e : ((x2.setCell ⟨w1.heap.size + 1, 2, none⟩ (.int .i64 a2)).setCell ⟨w1.heap.size + 1, 3, none⟩ (.string r3)).heap.size = x2.heap.size := by simp [World.setCell]
        rw [e] at hh
        exact at_oneIt hh
      clear M3 M4
      go_wp2_with (at_builtin; (refine wpList_row _ rfl _ _ 67 rfl EM (fun _ => True) w.heap.size 137 i0 _ 40 Tryz.underlying67 hi hz0 hz1 hz2 rfl _ acc (by rfl) M5.out.row _ [⟨a0, a1, a2, r3⟩] (by rfl) HO.out (by have := HLN.out; unfold maxLen; simp only [List.length_cons, List.length_nil]; omega) (by have := HLN.out; simp only [List.length_cons, List.length_nil]; omega) M5.out.gr.size ?_; intro v9 w9 hrow9 hg9 hloc9; have hM9 := M5.out.app hrow9 hg9; obtain ⟨p9, n9, c9, rfl⟩ := hM9.2.1.slice3; have M9 : Hid ((∃ v, Lt w9 L v r') ∧ Row EM w9 w.heap.size 137 (.slice p9 n9 c9) (acc ++ [⟨a0, a1, a2, r3⟩]) ∧ w.grownBy w9 (some L)) := hM9; clear hrow9 hg9 hloc9 hM9))
      obtain ⟨v9, hv9⟩ := M9.out.1
      go_roundw
      case rel => exact ⟨r', acc ++ [⟨a0, a1, a2, r3⟩], p9, n9, c9, rfl, ⟨⟨v9, hv9⟩, M9.out.2.1, M9.out.2.2, HR.out.hL, by rw [← HIO.out]; exact HYY.out HSZ.out.2, fun x hx => HR.out.sz x (List.mem_cons_of_mem _ hx), by have := HLN.out; simp; omega⟩⟩
      case measure => rw [hv9.left, HLF.out]; simp
end Go.Proofs.YtkdhbjmpjbdobaaGreatDoor
/- WRead -/
namespace Go.Proofs.YtkdhbjmpjbdobaaGreatDoor
open Go.ChangeShapes Go.WideShapes Go.ChangeAt Go.RowKit Go.Deep Me
set_option maxRecDepth 100000
theorem catch_idle (w : World) :
    CallsD Tryz.prog 75 #[] .returning w fun e u' w' => e = .returned (.tuple #[]) ∧ u' = .returning ∧ w' = w := by
  refine callsD_of_wpS Tryz.func75 rfl fun c₀ cs hu => ?_
  apply wpS_seq
  apply wpS_region
  simp [wpOpsS, go_sem, recoverD, hu, Tryz.ntmps75, Exit.thenS]
  refine wpS_of_wp ?_
  simp only [Array.replicate]
  go_wp2
  cases c₀
  simp_all [bodyPostS, results, Tryz.results75]
theorem ta_broken (w : World) : (Instr.typeAssert (.iface 157 (.agg #[])) 20 157 true).run Tryz.prog w = .ok (.tuple #[.agg #[], .bool true]) w := by kernel_rfl
theorem catch_broken (w : World) :
    CallsD Tryz.prog 75 #[] (.panicking [{ v := .iface 157 (.agg #[]), recovered := false }]) w fun e u' w' =>
      e = .returned (.tuple #[]) ∧ u' = .panicking [{ v := .iface 157 (.agg #[]), recovered := true }] ∧ Below w.heap.size w w' := by
  refine callsD_of_wpS Tryz.func75 rfl fun c₀ cs hu => ?_
  apply wpS_seq
  apply wpS_region
  simp [wpOpsS, go_sem, recoverD, hu, Tryz.ntmps75, Exit.thenS]
  have hta := ta_broken
  refine wpS_of_wp ?_
  simp only [Array.replicate]
  go_wp2
  cases c₀
  simp_all [bodyPostS, results, Tryz.results75]
  exact below_alloc _ _
end Go.Proofs.YtkdhbjmpjbdobaaGreatDoor
/- WState -/
namespace Go.Proofs.YtkdhbjmpjbdobaaGreatDoor
open Go.ChangeShapes Go.WideShapes Go.ChangeAt Go.RowKit Go.Deep Me
set_option maxRecDepth 100000
abbrev NS : Value := .slice none 0 0
theorem Row.base {α : Type} {E : Enc α} {w : World} {B B' : Nat} {e : TypeId} {v : Value} {ls : List α} (h : Row E w B e v ls) (hB : B' ≤ B) : Row E w B' e v ls := by
  rcases h with h | ⟨g, cap, cur, rfl, hg, hr⟩
  · exact .inl h
  · exact .inr ⟨g, cap, cur, rfl, by omega, hr⟩
structure Wh (w0 : World) (L M : Nat) (l : List (Int × ByteArray)) (m : Mm) (u z : Value) (w : World) : Prop where
  lt : ∃ v, Lt w L v l
  bx : w.heap[M]? = some (BM m u z)
  rs : w.heap[w0.heap.size]? = some (BM Me.zero NS NS)
  ru : Row EI w (M + 1) 3 u m.lives
  rz : Row EM w (M + 1) 137 z m.items
  bel : Below w0.heap.size w0 w
  hR : w0.heap.size < L
  hL : L < M
  sz : ∀ x ∈ l, x.2.size ≤ 65535
  len : l.length ≤ 60000
theorem below_grown {B L : Nat} {w0 w w' : World} (h : Below B w0 w) (hg : w.grownBy w' (some L)) (hL : B ≤ L) (hB : B ≤ w.heap.size) : Below B w0 w' :=
  ⟨hg.os.trans h.os, hg.tape.trans h.tape, hg.output.trans h.output, Nat.le_trans h.size hg.size, fun k hk => (hg.block k (by omega) (by simp; omega)).trans (h.block k hk)⟩
theorem Wh.read {w0 w w' : World} {L M : Nat} {l r : List (Int × ByteArray)} {m : Mm} {u z : Value} (h : Wh w0 L M l m u z w) (hg : w.grownBy w' (some L)) (hl : ∃ v, Lt w' L v r) (hsz : ∀ x ∈ r, x.2.size ≤ 65535) (hlen : r.length ≤ 60000) : Wh w0 L M r m u z w' := by
  have h1 := h.hR; have h2 := h.hL
  have h3 := block_lt h.bx
  refine ⟨hl, (hg.block M h3 (by simp; omega)).trans h.bx, (hg.block _ (block_lt h.rs) (by simp; omega)).trans h.rs, h.ru.stay hg (h.ru.ne_low (by omega)), h.rz.stay hg (h.rz.ne_low (by omega)), below_grown h.bel hg (by omega) (by omega), h1, h2, hsz, hlen⟩
theorem Wh.put {w0 w : World} {L M : Nat} {l : List (Int × ByteArray)} {m m' : Mm} {u z u' z' : Value} (h : Wh w0 L M l m u z w) (k : Nat) (p : Value)
    (hk : (#[.int .i64 m.k, .int .i64 m.v, .int .i64 m.n, .int .i64 m.o, .int .i64 m.c, .int .i64 m.b, .int .i64 m.l, .int .i64 m.cl, u, z, .int .i64 m.mo, .int .i64 m.ms, .int .i64 m.mm, .int .i64 m.nu, .string m.d] : Array Value).setIfInBounds k p = #[.int .i64 m'.k, .int .i64 m'.v, .int .i64 m'.n, .int .i64 m'.o, .int .i64 m'.c, .int .i64 m'.b, .int .i64 m'.l, .int .i64 m'.cl, u', z', .int .i64 m'.mo, .int .i64 m'.ms, .int .i64 m'.mm, .int .i64 m'.nu, .string m'.d])
    (hu : Row EI w (M + 1) 3 u' m'.lives) (hz : Row EM w (M + 1) 137 z' m'.items) : Wh w0 L M l m' u' z' (w.setCell ⟨M, k, none⟩ p) := by
  have h1 := h.hR; have h2 := h.hL
  have h3 := block_lt h.bx
  have hg := grown_set1 w M k p
  obtain ⟨v, hl⟩ := h.lt
  refine ⟨⟨v, hl.grown h2 hg⟩, by rw [set_at h.bx, hk], (hg.block _ (block_lt h.rs) (by simp; omega)).trans h.rs, hu.stay hg (hu.ne_low (by omega)), hz.stay hg (hz.ne_low (by omega)), below_grown h.bel hg (by omega) (by omega), h1, h2, h.sz, h.len⟩
def c13 (m : Mm) (l : List (Int × ByteArray)) : Option Mm := if l.length = 0 ∧ right m = true then some m else none
def c12 (m : Mm) (l : List (Int × ByteArray)) : Option Mm := (pData l).bind fun q => c13 { m with d := q.1 } q.2
def c11 (m : Mm) (l : List (Int × ByteArray)) : Option Mm := (pNum 12 2 l).bind fun q => c12 { m with nu := q.1 } q.2
def c10 (m : Mm) (l : List (Int × ByteArray)) : Option Mm := (pMan l).bind fun q => c11 { m with mo := q.1.1, ms := q.1.2.1, mm := q.1.2.2 } q.2
def c9 (m : Mm) (l : List (Int × ByteArray)) : Option Mm := (pItems l).bind fun q => c10 { m with items := q.1 } q.2
def c8 (m : Mm) (l : List (Int × ByteArray)) : Option Mm := (pLives l).bind fun q => c9 { m with lives := q.1 } q.2
def c7 (m : Mm) (l : List (Int × ByteArray)) : Option Mm := (pNum 8 6 l).bind fun q => c8 { m with cl := q.1 } q.2
def c6 (m : Mm) (l : List (Int × ByteArray)) : Option Mm := (pNum 7 6 l).bind fun q => c7 { m with l := q.1 } q.2
def c5 (m : Mm) (l : List (Int × ByteArray)) : Option Mm := (pNum 6 6 l).bind fun q => c6 { m with b := q.1 } q.2
def c4 (m : Mm) (l : List (Int × ByteArray)) : Option Mm := (pNum 5 6 l).bind fun q => c5 { m with c := q.1 } q.2
def c3 (m : Mm) (l : List (Int × ByteArray)) : Option Mm := (pNum 4 6 l).bind fun q => c4 { m with o := q.1 } q.2
def c2 (m : Mm) (l : List (Int × ByteArray)) : Option Mm := (pNum 3 6 l).bind fun q => c3 { m with n := q.1 } q.2
def c1 (m : Mm) (l : List (Int × ByteArray)) : Option Mm := (pNum 2 6 l).bind fun q => c2 { m with v := q.1 } q.2
def c0 (m : Mm) (l : List (Int × ByteArray)) : Option Mm := (pNum 1 1 l).bind fun q => c1 { m with k := q.1 } q.2
/-- The memo that fields are. -/
def pMemo (l : List (Int × ByteArray)) : Option Mm := c0 Me.zero l
theorem pNum_sub {t : Int} {z : Nat} {l r : List (Int × ByteArray)} {a : Int} (h : pNum t z l = some (a, r)) : (∀ x ∈ r, x ∈ l) ∧ r.length ≤ l.length := by
  match l, h with
  | [], h => simp [pNum] at h; obtain ⟨-, rfl⟩ := h; simp
  | (t', s) :: l, h =>
    simp only [pNum] at h
    split at h
    · split at h
      · simp at h; obtain ⟨-, rfl⟩ := h; exact ⟨fun x hx => List.mem_cons_of_mem _ hx, by simp⟩
      · cases h
    · simp at h; obtain ⟨-, rfl⟩ := h; exact ⟨fun x hx => hx, Nat.le_refl _⟩
theorem pData_sub {l r : List (Int × ByteArray)} {a : ByteArray} (h : pData l = some (a, r)) : (∀ x ∈ r, x ∈ l) ∧ r.length ≤ l.length := by
  match l, h with
  | [], h => simp [pData] at h; obtain ⟨-, rfl⟩ := h; simp
  | (t', s) :: l, h =>
    simp only [pData] at h
    split at h
    · split at h
      · cases h
      · simp at h; obtain ⟨-, rfl⟩ := h; exact ⟨fun x hx => List.mem_cons_of_mem _ hx, by simp⟩
    · simp at h; obtain ⟨-, rfl⟩ := h; exact ⟨fun x hx => hx, Nat.le_refl _⟩
theorem pMan_sub {l r : List (Int × ByteArray)} {a : Int × Int × Int} (h : pMan l = some (a, r)) : (∀ x ∈ r, x ∈ l) ∧ r.length ≤ l.length := by
  match l, h with
  | [], h => simp [pMan] at h; obtain ⟨-, rfl⟩ := h; simp
  | (t', s) :: l, h =>
    simp only [pMan] at h
    split at h
    · split at h
      · simp at h; obtain ⟨-, rfl⟩ := h; exact ⟨fun x hx => List.mem_cons_of_mem _ hx, by simp⟩
      · cases h
    · simp at h; obtain ⟨-, rfl⟩ := h; exact ⟨fun x hx => hx, Nat.le_refl _⟩
theorem pLives_sub : ∀ {l r : List (Int × ByteArray)} {a : List Int}, pLives l = some (a, r) → (∀ x ∈ r, x ∈ l) ∧ r.length ≤ l.length
  | [], r, a, h => by simp [pLives] at h; obtain ⟨-, rfl⟩ := h; simp
  | (t', s) :: l, r, a, h => by
    simp only [pLives] at h
    split at h
    · split at h
      · cases hq : pLives l with
        | none => rw [hq] at h; cases h
        | some q =>
          rw [hq] at h
          simp at h
          obtain ⟨-, rfl⟩ := h
          have := pLives_sub (l := l) (r := q.2) (a := q.1) hq
          exact ⟨fun x hx => List.mem_cons_of_mem _ (this.1 x hx), by simp; omega⟩
      · cases h
    · simp at h; obtain ⟨-, rfl⟩ := h; exact ⟨fun x hx => hx, Nat.le_refl _⟩
theorem pItems_sub : ∀ {l r : List (Int × ByteArray)} {a : List It}, pItems l = some (a, r) → (∀ x ∈ r, x ∈ l) ∧ r.length ≤ l.length
  | [], r, a, h => by simp [pItems] at h; obtain ⟨-, rfl⟩ := h; simp
  | (t', s) :: l, r, a, h => by
    simp only [pItems] at h
    split at h
    · split at h
      · cases hq : pItems l with
        | none => rw [hq] at h; cases h
        | some q =>
          rw [hq] at h
          simp at h
          obtain ⟨-, rfl⟩ := h
          have := pItems_sub (l := l) (r := q.2) (a := q.1) hq
          exact ⟨fun x hx => List.mem_cons_of_mem _ (this.1 x hx), by simp; omega⟩
      · cases h
    · simp at h; obtain ⟨-, rfl⟩ := h; exact ⟨fun x hx => hx, Nat.le_refl _⟩
end Go.Proofs.YtkdhbjmpjbdobaaGreatDoor
/- Unpack -/
namespace Go.Proofs.YtkdhbjmpjbdobaaGreatDoor
open Go.ChangeShapes Go.WideShapes Go.ChangeAt Go.RowKit Go.Deep
set_option maxRecDepth 100000

theorem own_drewN {w : World} {base : Nat} {e : TypeId} {size : Nat} {v : Value} {n : Nat} {xs : List Value} (h : w.ownsRow base e size v n xs) (k : Nat) : (w.drewN k).ownsRow base e size v n xs := h
theorem extract_rest (S : ByteArray) (a : Nat) : (S.extract a S.size).data.toList = S.data.toList.drop a := by
  rw [Pl.extract_txt, Pl.txt_data, List.take_of_length_le (by simp)]
theorem info168 : (Tryz.prog.info? 168).map (fun i => (i.zero, i.size, i.bytes)) = some (some (.agg #[.int .i64 0, .string ⟨#[]⟩]), 2, 24) := by kernel_rfl

set_option maxRecDepth 100000 in
set_option maxHeartbeats 2000000 in
theorem unpack_any (s : ByteArray) (w : World) (hs : s.size ≤ 1048576) :
    Calls Tryz.prog 70 #[.string s] w fun e w' => ∃ r, e = .returned (.tuple #[r, .int .i64 (Pl.unpErr s.data.toList)]) ∧
      w'.ownsRow w.heap.size 168 2 r (Pl.unpOut s.data.toList).length (cellsOf (Pl.unpOut s.data.toList)) ∧ Below w.heap.size w w' := by
  obtain ⟨i0, hi, hz0, hz1, hz2⟩ := info_parts info168
  have hsl : s.data.toList.length = s.size := by simp
  have HM0 : Hid (Pl.Mid s.data.toList [] 1 s.data.toList) := Pl.Mid.start _
  obtain ⟨L, hL⟩ : ∃ L, s.data.toList = L := ⟨_, rfl⟩
  rw [hL] at hsl ⊢
  have HL : Hid (s.data.toList = L) := hL
  have HSL : Hid (L.length = s.size) := hsl
  clear hL hsl
  go_enter Tryz.func70, Tryz.ntmps70
  go_wp2
  go_step3
  go_wp2
  go_step3
  go_wp2
  go_loopw [0, 4, 5] (fun z r t wr => ∃ (S : ByteArray) (done : List (Int × ByteArray)) (la : Int), z = .string S ∧ t = .int .i64 la ∧ S.size ≤ 1048576 ∧ la ≤ 255 ∧ Pl.Mid L done la S.data.toList ∧
      wr.ownsRow w.heap.size 168 2 r done.length (cellsOf done) ∧ Below w.heap.size w wr) (fun z _ _ _ => match z with | .string S => S.size | _ => 0)
  case atStart => exact ⟨s, [], 1, rfl, rfl, hs, by omega, by rw [HL.out]; exact Pl.Mid.start L, World.ownsRow_nil _ _ _ _, Below.refl _ _⟩
  case round =>
    obtain ⟨S, done, la, rfl, rfl, hS, hla, hmid, hown, hbl⟩ := hrel
    have hsz := hbl.size
    have HM : Hid (Pl.Mid L done la S.data.toList) := hmid
    have hdl : done.length ≤ 1048576 := by have := hmid.1; have := HSL.out; omega
    have hln : S.data.toList.length = S.size := by simp
    clear hmid
    by_cases h0 : S.size = 0
    · have hnil : S.data.toList = [] := List.eq_nil_of_length_eq_zero (by omega)
      have hem : S.toList.isEmpty = true := by rw [ByteArray.toList_eq, hnil]; rfl
      have H : Hid (Pl.unpOut L = done ∧ Pl.unpErr L = 0) := by
        have := HM.out
        rw [hnil] at this
        exact this.finish
      clear hnil hln h0
      go_wp2
      rw [Exit.noGoto_ret]
      go_ret2
      rw [H.out.1, H.out.2]
      exact ⟨_, rfl, hown, hbl⟩
    · have hnn : S.data.toList ≠ [] := by
        intro h
        rw [h] at hln
        simp at hln
        omega
      have hne : S.toList.isEmpty = false := by rw [ByteArray.toList_eq, List.isEmpty_eq_false_iff]; exact hnn
      have HNN : Hid (S.data.toList ≠ []) := hnn
      clear hnn
      by_cases h1 : S.size < 3
      · have H : Hid (Pl.unpOut L = [] ∧ Pl.unpErr L = 10) := HM.out.fail HNN.out (by simp [Pl.stepErr, hln, h1]) (by decide)
        clear hln
        go_wp2
        rw [Exit.noGoto_ret]
        go_ret2
        rw [H.out.1, H.out.2]
        exact ⟨_, rfl, World.ownsRow_nil _ _ _ _, hbl⟩
      · have p0 : 0 < S.size := by omega
        have p1 : 1 < S.size := by omega
        have p2 : 2 < S.size := by omega
        have e0 : Pl.tagOf S.data.toList = ((S[0]'p0).toNat : Int) := by rw [Pl.tagOf, Pl.getD_at S 0 p0]
        have e1 : Pl.lenOf S.data.toList = 256 * (S[1]'p1).toNat + (S[2]'p2).toNat := by rw [Pl.lenOf, Pl.getD_at S 1 p1, Pl.getD_at S 2 p2]
        have b0 : (S[0]'p0).toNat < 256 := (S[0]'p0).toNat_lt
        have b1 : (S[1]'p1).toNat < 256 := (S[1]'p1).toNat_lt
        have b2 : (S[2]'p2).toNat < 256 := (S[2]'p2).toNat_lt
        by_cases h2 : (S[0]'p0).toNat = 0
        · have h2' : (((S[0]'p0).toNat : Int) == 0) = true := by simp; omega
          have H : Hid (Pl.unpOut L = [] ∧ Pl.unpErr L = 4) := HM.out.fail HNN.out (by simp [Pl.stepErr, hln, h1, e0, h2]) (by decide)
          clear e0 e1 hln h2
          go_wp2
          rw [Exit.noGoto_ret]
          go_ret2
          rw [H.out.1, H.out.2]
          exact ⟨_, rfl, World.ownsRow_nil _ _ _ _, hbl⟩
        · have h2' : (((S[0]'p0).toNat : Int) == 0) = false := by simp; omega
          by_cases h3 : ((S[0]'p0).toNat : Int) < la
          · have H : Hid (Pl.unpOut L = [] ∧ Pl.unpErr L = 11) := HM.out.fail HNN.out (by
              unfold Pl.stepErr
              rw [e0, hln, if_neg h1, if_neg (by omega), if_pos h3]) (by decide)
            clear e0 e1 hln h2
            go_wp2
            rw [Exit.noGoto_ret]
            go_ret2
            rw [H.out.1, H.out.2]
            exact ⟨_, rfl, World.ownsRow_nil _ _ _ _, hbl⟩
          · have q1 : (1 : Int) < (S.size : Int) := by omega
            have q2 : (2 : Int) < (S.size : Int) := by omega
            by_cases h4 : (S.size : Int) < 3 + ((S[1]'p1).toNat : Int) * 256 + ((S[2]'p2).toNat : Int)
            · have H : Hid (Pl.unpOut L = [] ∧ Pl.unpErr L = 10) := HM.out.fail HNN.out (by
                unfold Pl.stepErr
                rw [e0, e1, hln, if_neg h1, if_neg (by omega), if_neg h3, if_pos (by omega)]) (by decide)
              clear e0 e1 hln h2
              go_wp2
              go_quiet (fail)
              go_wp2
              rw [Exit.noGoto_ret]
              go_ret2
              rw [H.out.1, H.out.2]
              exact ⟨_, rfl, World.ownsRow_nil _ _ _ _, Go.below_drewN hbl _⟩
            · have HST : Hid (Pl.Mid L (done ++ [Pl.fieldOf S.data.toList]) (Pl.tagOf S.data.toList) (S.data.toList.drop (3 + Pl.lenOf S.data.toList))) := HM.out.step HNN.out (by
                unfold Pl.stepErr
                rw [e0, e1, hln, if_neg h1, if_neg (by omega), if_neg h3, if_neg (by omega)])
              have HFO : Hid (Pl.fieldOf S.data.toList = (((S[0]'p0).toNat : Int), S.extract 3 (3 + (S[1]'p1).toNat * 256 + (S[2]'p2).toNat))) := by
                show Pl.fieldOf S.data.toList = _
                unfold Pl.fieldOf
                rw [e0, e1, Pl.extract_txt, show 3 + (S[1]'p1).toNat * 256 + (S[2]'p2).toNat - 3 = 256 * (S[1]'p1).toNat + (S[2]'p2).toNat from by omega]
              have HE0 : Hid (Pl.tagOf S.data.toList = ((S[0]'p0).toNat : Int)) := e0
              have HE1 : Hid (Pl.lenOf S.data.toList = 256 * (S[1]'p1).toNat + (S[2]'p2).toNat) := e1
              clear e0 e1 hln h2
              go_wp2
              go_quiet (fail)
              go_wp2_with (at_builtin; refine wpList_append_own _ rfl (.tmp 40) (.tmp 46) 117 rfl w.heap.size 168 i0 (.agg #[.int .i64 0, .string ⟨#[]⟩]) 2 24 Tryz.underlying117 hi hz0 hz1 hz2 rfl (by decide) _ _ _ rfl ((own_drewN hown _).alloc _) ⟨wr.heap.size, 0, none⟩ 1 1 [.int .i64 ((S[0]'p0).toNat : Int), .string (S.extract 3 (3 + (S[1]'p1).toNat * 256 + (S[2]'p2).toNat))] rfl rfl (App.two_new _ _ rfl _ _ _) (App.one2 _ _) (by unfold maxLen; omega) (by omega) (by first | omega | (simp; omega)) ?_; intro v1 w1 hown1 hgrow1 _)
              go_roundw
              case rel =>
                refine ⟨_, done ++ [Pl.fieldOf S.data.toList], Pl.tagOf S.data.toList, rfl, by rw [HE0.out], ?_, by rw [HE0.out]; omega, ?_, ?_, ?_⟩
                · rw [ByteArray.size_extract]; omega
                · rw [extract_rest, show 3 + (S[1]'p1).toNat * 256 + (S[2]'p2).toNat = 3 + Pl.lenOf S.data.toList from by rw [HE1.out]; omega]
                  exact HST.out
                · rw [HFO.out, cellsOf_append, List.length_append]
                  exact hown1
                · exact ((Go.below_drewN hbl _).alloc hsz _).grown hgrow1 (by simp; omega) (fun g hg => (hown.lt g hg).1)
              case measure => simp only [ByteArray.size_extract]; omega
end Go.Proofs.YtkdhbjmpjbdobaaGreatDoor
