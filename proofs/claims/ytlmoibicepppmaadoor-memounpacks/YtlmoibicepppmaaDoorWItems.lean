/-
  The items, taken off a letter.
-/
import Derived.Test.YtlmoibicepppmaaDoorWLives
namespace Go.Proofs.YtlmoibicepppmaaDoor
open Go.ChangeShapes Go.WideShapes Go.ChangeAt Go.RowKit Go.Deep Me
set_option maxRecDepth 100000
def itOf (s : ByteArray) : It := ⟨Pl.numVal (s.extract 0 6), Pl.numVal ((s.extract 6 s.size).extract 0 6), Pl.numVal (((s.extract 6 s.size).extract 6 (s.extract 6 s.size).size).extract 0 6), ((s.extract 6 s.size).extract 6 (s.extract 6 s.size).size).extract 6 ((s.extract 6 s.size).extract 6 (s.extract 6 s.size).size).size⟩
theorem itOf_eq {s r1 r2 r3 : ByteArray} {a0 a1 a2 : Int} (h : s.extract 6 s.size = r1 ∧ r1.extract 6 r1.size = r2 ∧ r2.extract 6 r2.size = r3) (h0 : Pl.numVal (s.extract 0 6) = a0) (h1 : Pl.numVal (r1.extract 0 6) = a1) (h2 : Pl.numVal (r2.extract 0 6) = a2) : itOf s = ⟨a0, a1, a2, r3⟩ := by
  unfold itOf
  rw [h.1, h.2.1, h.2.2, h0, h1, h2]
/-- The items, off a list of fields. -/
def pItems : List (Int × ByteArray) → Option (List It × List (Int × ByteArray))
  | [] => some ([], [])
  | (t, s) :: l => if t = 10 then (if 18 ≤ s.size then (pItems l).map fun q => (itOf s :: q.1, q.2) else none) else some ([], (t, s) :: l)
theorem pItems_skip {l : List (Int × ByteArray)} (hl : ∀ x, l.head? = some x → x.1 ≠ 10) : pItems l = some ([], l) := by
  match l, hl with
  | [], _ => rfl
  | (t, s) :: l, hl => simp only [pItems]; rw [if_neg (hl _ rfl)]
theorem infoM : (Tryd.prog.info? 50).map (fun i => (i.zero, i.size, i.bytes)) = some (some (.agg #[.int .i64 0, .int .i64 0, .int .i64 0, .string ⟨#[]⟩]), 4, 40) := by kernel_rfl
theorem at_oneIt {w : World} {A : Nat} {y : It} (h : w.heap[A]? = some (BI y)) : AtW EM w (.slice (some ⟨A, 0, none⟩) 1 1) [y] := by
  refine .inr ⟨A, 0, 1, rfl, trivial, (Array.getElem?_eq_some_iff.1 h).1, by simp, by simp, by unfold maxLen; omega, fun j u hj => ?_⟩
  obtain ⟨c0, c1, c2, c3⟩ := it_of h
  match j, hj with
  | 0, hj => simp [Enc.flat, EM] at hj; subst hj; exact c0
  | 1, hj => simp [Enc.flat, EM] at hj; subst hj; exact c1
  | 2, hj => simp [Enc.flat, EM] at hj; subst hj; exact c2
  | 3, hj => simp [Enc.flat, EM] at hj; subst hj; exact c3
structure Iv (w0 : World) (L : Nat) (l r : List (Int × ByteArray)) (acc : List It) (u : Value) (w : World) : Prop where
  lt : ∃ v, Lt w L v r
  row : Row EM w w0.heap.size 50 u acc
  gr : w0.grownBy w (some L)
  hL : L < w0.heap.size
  eq : pItems l = (pItems r).map fun q => (acc ++ q.1, q.2)
  sz : ∀ x ∈ r, x.2.size ≤ 65535
  len : acc.length + r.length ≤ 60000
theorem Iv.start {w : World} {L : Nat} {v : Value} {l : List (Int × ByteArray)} (h : Lt w L v l) (hs : ∀ x ∈ l, x.2.size ≤ 65535) (hl : l.length ≤ 60000) : Iv w L l l [] (.slice none 0 0) w :=
  ⟨⟨v, h⟩, Row.nil _ _ _ _, grown_refl _ _, h.box.lt, by cases pItems l <;> simp, hs, by simpa using hl⟩
/-- Behind a field's taking: the value and the item in boxes of their own. -/
structure Iw (w0 : World) (L X Z : Nat) (r : List (Int × ByteArray)) (acc : List It) (s : ByteArray) (y : It) (u : Value) (w : World) : Prop where
  lt : ∃ v, Lt w L v r
  row : Row EM w w0.heap.size 50 u acc
  gr : w0.grownBy w (some L)
  vb : Vb w X s
  bx : w.heap[Z]? = some (BI y)
  hL : L < w0.heap.size
  hX : w0.heap.size ≤ X
  hZ : X < Z
  hu : ∀ g, u.ownBlock = some g → g < X
theorem Iw.num {w0 w : World} {L X Z : Nat} {r : List (Int × ByteArray)} {acc : List It} {s : ByteArray} {y : It} {u : Value} {w' : World} {s' : ByteArray} (h : Iw w0 L X Z r acc s y u w) (hv : Vb w' X s') (hg : w.grownBy w' (some X)) : Iw w0 L X Z r acc s' y u w' := by
  have h1 := h.hL; have h2 := h.hX; have h3 := h.hZ
  obtain ⟨v, hl⟩ := h.lt
  exact ⟨⟨v, hl.grown (by omega) hg⟩, h.row.stay hg (fun e => by have := h.hu _ e; omega), grown_new h.gr (by omega) hg, hv, (hg.block Z (block_lt h.bx) (by simp; omega)).trans h.bx, h1, h2, h3, h.hu⟩
theorem Iw.put {w0 w : World} {L X Z : Nat} {r : List (Int × ByteArray)} {acc : List It} {s : ByteArray} {y : It} {u : Value} {y' : It} (h : Iw w0 L X Z r acc s y u w) (k : Nat) (p : Value) (hk : (#[.int .i64 y.v, .int .i64 y.c, .int .i64 y.r, .string y.b] : Array Value).setIfInBounds k p = #[.int .i64 y'.v, .int .i64 y'.c, .int .i64 y'.r, .string y'.b]) : Iw w0 L X Z r acc s y' u (w.setCell ⟨Z, k, none⟩ p) := by
  have h1 := h.hL; have h2 := h.hX; have h3 := h.hZ
  have hg := grown_set1 w Z k p
  obtain ⟨v, hl⟩ := h.lt
  exact ⟨⟨v, hl.grown (by omega) hg⟩, h.row.stay hg (fun e => by have := h.hu _ e; omega), grown_new h.gr (by omega) hg, h.vb.kept hg (by simp; omega), by rw [set_at h.bx, hk], h1, h2, h3, h.hu⟩
theorem Iw.up {w0 w : World} {L X Z : Nat} {r : List (Int × ByteArray)} {acc : List It} {s : ByteArray} {y : It} {u : Value} {w' : World} (h : Iw w0 L X Z r acc s y u w) (hb : Below w.heap.size w w') : Iw w0 L X Z r acc s y u w' := by
  obtain ⟨v, hl⟩ := h.lt
  exact ⟨⟨v, hl.up hb⟩, h.row.up hb, grown_trans h.gr (grown_of_below hb _), h.vb.kept (grown_of_below hb none) (by simp), blk h.bx hb, h.hL, h.hX, h.hZ, h.hu⟩
theorem Iw.cells {w0 w : World} {L X Z : Nat} {r : List (Int × ByteArray)} {acc : List It} {s : ByteArray} {y : It} {u : Value} (h : Iw w0 L X Z r acc s y u w) : w.cell? ⟨Z, 0, none⟩ = some (.int .i64 y.v) ∧ w.cell? ⟨Z, 1, none⟩ = some (.int .i64 y.c) ∧ w.cell? ⟨Z, 2, none⟩ = some (.int .i64 y.r) ∧ w.cell? ⟨Z, 3, none⟩ = some (.string y.b) ∧ w.frozen? ⟨Z, 0, none⟩ = false ∧ w.frozen? ⟨Z, 1, none⟩ = false ∧ w.frozen? ⟨Z, 2, none⟩ = false ∧ w.frozen? ⟨Z, 3, none⟩ = false :=
  ⟨cell_at h.bx 0, cell_at h.bx 1, cell_at h.bx 2, cell_at h.bx 3, fr_at h.bx 0, fr_at h.bx 1, fr_at h.bx 2, fr_at h.bx 3⟩
theorem Iw.app {w0 w : World} {L X Z : Nat} {r : List (Int × ByteArray)} {acc : List It} {s : ByteArray} {y : It} {u : Value} {w' : World} {acc' : List It} {u' : Value} (h : Iw w0 L X Z r acc s y u w) (hr : Row EM w' w0.heap.size 50 u' acc') (hg : w.grownBy w' u.ownBlock) : (∃ v, Lt w' L v r) ∧ Row EM w' w0.heap.size 50 u' acc' ∧ w0.grownBy w' (some L) := by
  have h1 := h.hL
  have hlow : ∀ k, k < w0.heap.size → some k ≠ u.ownBlock := fun k hk e => h.row.ne_low hk e.symm
  obtain ⟨v, hl⟩ := h.lt
  refine ⟨⟨v, hl.box.kept hg (hlow L h1), hl.row.below (C := L) ⟨hg.os, hg.tape, hg.output, hg.size, fun k hk => hg.block k (by have := hl.box.lt; omega) (hlow k (by omega))⟩ (Nat.le_refl _)⟩, hr, ?_⟩
  exact ⟨hg.os.trans h.gr.os, hg.tape.trans h.gr.tape, hg.output.trans h.gr.output, Nat.le_trans h.gr.size hg.size, fun k hk hne => (hg.block k (by have := h.gr.size; omega) (hlow k hk)).trans (h.gr.block k hk hne)⟩
set_option maxRecDepth 100000 in
set_option maxRecDepth 100000 in
set_option maxHeartbeats 4000000 in
theorem items_any (L : Nat) (v : Value) (l : List (Int × ByteArray)) (w : World) (h : Lt w L v l) (hs : ∀ x ∈ l, x.2.size ≤ 65535) (hl : l.length ≤ 60000) : Calls Tryd.prog 64 #[.pointer (some ⟨L, 0, none⟩)] w (Rd L w (pItems l) fun a u w' => Row EM w' w.heap.size 50 u a) := by
  have H0 : Hid (Iv w L l l [] (.slice none 0 0) w) := Iv.start h hs hl
  obtain ⟨i0, hi, hz0, hz1, hz2⟩ := info_parts infoM
  clear h hs hl
  go_enter Tryd.func64, Tryd.ntmps64
  go_wp2
  go_loopw [3] (fun u wr => ∃ (r : List (Int × ByteArray)) (acc : List It) (pp : Option Addr) (jj q : Nat), u = .slice pp jj q ∧ Hid (Iv w L l r acc (.slice pp jj q) wr)) (fun _ wr => leftOf L wr)
  case atStart => exact ⟨l, [], none, 0, 0, rfl, H0.out⟩
  case round =>
    obtain ⟨r, acc, pp, jj, q, rfl, HR⟩ := hrel
    clear H0
    obtain ⟨v1, hv1⟩ := HR.out.lt
    have HV : Hid (Lt wr L v1 r) := hv1
    have hlf := hv1.left
    have HLF : Hid (leftOf L wr = r.length) := hlf
    clear hv1 hlf
    by_cases hd : ∀ x, r.head? = some x → x.1 ≠ 10
    · have HP : Hid (pItems l = some (acc, r)) := by
        show _ = _
        rw [HR.out.eq, pItems_skip hd]
        simp
      have HD : Hid (∀ x, r.head? = some x → x.1 ≠ 10) := hd
      clear hd
      go_wp2_with fail
      refine (next_skip 10 L v1 r _ HV.out HD.out).mono ?_
      rintro e w1 ⟨rfl, hb1⟩
      have HB : Hid (Below wr.heap.size wr (w1.alloc (BV ⟨#[]⟩))) := bup hb1 (below_alloc _ _)
      clear hb1
      go_wp2
      go_ret
      refine ⟨grown_trans HR.out.gr (grown_of_below HB.out _), ?_, fun h => by rw [HP.out] at h; cases h⟩
      rintro a r9 e
      rw [HP.out] at e
      simp only [Option.some.injEq, Prod.mk.injEq] at e
      obtain ⟨rfl, rfl⟩ := e
      exact ⟨⟨_, rfl, HR.out.row.up HB.out⟩, v1, HV.out.up HB.out⟩
    · obtain ⟨s, r', hrr⟩ : ∃ s r', r = (10, s) :: r' := by
        match r, hd with
        | [], hd => exact absurd (by simp) hd
        | (t, s) :: r', hd =>
          by_cases ht : t = 10
          · exact ⟨s, r', by rw [ht]⟩
          · exact absurd (by intro x hx; simp at hx; subst hx; exact ht) hd
      subst hrr
      clear hd
      have hss : s.size ≤ 65535 := HR.out.sz _ (List.mem_cons_self ..)
      have HNN : Hid (¬ 18 ≤ s.size → pItems l = none) := fun h => by
        rw [HR.out.eq]
        simp only [pItems, if_true]
        rw [if_neg h]
        rfl
      have HYY : Hid (18 ≤ s.size → pItems l = (pItems r').map fun q => ((acc ++ [itOf s]) ++ q.1, q.2)) := fun h => by
        rw [HR.out.eq]
        simp only [pItems, if_true]
        rw [if_pos h]
        cases pItems r' <;> simp
      have HLN : Hid (acc.length + (r'.length + 1) ≤ 60000) := HR.out.len
      obtain ⟨r1, hr1⟩ : ∃ r, s.extract 6 s.size = r := ⟨_, rfl⟩
      obtain ⟨r2, hr2⟩ : ∃ r, r1.extract 6 r1.size = r := ⟨_, rfl⟩
      obtain ⟨r3, hr3⟩ : ∃ r, r2.extract 6 r2.size = r := ⟨_, rfl⟩
      have HRR : Hid (s.extract 6 s.size = r1 ∧ r1.extract 6 r1.size = r2 ∧ r2.extract 6 r2.size = r3) := ⟨hr1, hr2, hr3⟩
      have h1 : r1.size = s.size - 6 := by rw [← hr1, ByteArray.size_extract]; omega
      have h2 : r2.size = r1.size - 6 := by rw [← hr2, ByteArray.size_extract]; omega
      have hsz : s.size ≤ 65535 ∧ r1.size = s.size - 6 ∧ r2.size = s.size - 6 - 6 := ⟨hss, h1, by omega⟩
      clear hr1 hr2 hr3 h1 h2 hss
      go_wp2_with fail
      refine (next_yes 10 s r' L v1 _ HV.out).mono ?_
      rintro e w1 ⟨rfl, ⟨v2, hl2⟩, hg1⟩
      have M0 : Hid (Iw w L w1.heap.size (w1.heap.size + 1) r' acc s ⟨0, 0, 0, ⟨#[]⟩⟩ (.slice pp jj q) ((w1.alloc (BV s)).alloc (BI ⟨0, 0, 0, ⟨#[]⟩⟩))) := by
        have h1 := HR.out.hL
        have h2 := grown_trans HR.out.gr hg1
        have hrow := HR.out.row.stay hg1 (HR.out.row.ne_low h1)
        have hn := heap_alloc_new (w1.alloc (BV s)) (BI ⟨0, 0, 0, ⟨#[]⟩⟩)
        have hsz : (w1.alloc (BV s)).heap.size = w1.heap.size + 1 := by simp
        rw [hsz] at hn
        exact ⟨⟨v2, (hl2.up (below_alloc _ _)).up (below_alloc _ _)⟩, (hrow.up (below_alloc _ _)).up (below_alloc _ _), grown_trans (grown_trans h2 (grown_of_below (below_alloc _ _) _)) (grown_of_below (below_alloc _ _) _), (Boxed.new _ _ _).alloc _, hn, h1, h2.size, by omega, fun g hg => (hrow.lt g hg).2⟩
      clear hg1 hl2
      by_cases h6 : s.size < 6
      · have HSZ : Hid (s.size < 6) := h6
        have HP : Hid (pItems l = none) := HNN.out (by omega)
        clear h6 hsz
        go_wp2_with fail
        refine (vnum_no s 6 _ _ M0.out.vb (by have := HSZ.out; omega)).mono ?_
        rintro e x0 ⟨rfl, hb⟩
        have HG : Hid (w.grownBy x0 (some L)) := grown_trans M0.out.gr (grown_of_below hb _)
        clear hb
        go_wp2
        simp only [bodyPost]
        refine ⟨by first | trivial | rfl, HG.out, ?_, fun _ => rfl⟩
        rintro a r9 e
        rw [HP.out] at e
        cases e
      by_cases h12 : s.size < 12
      · have HSZ : Hid ((s.size ≤ 65535 ∧ r1.size = s.size - 6 ∧ r2.size = s.size - 6 - 6) ∧ 6 ≤ s.size ∧ s.size < 12) := ⟨hsz, by omega, h12⟩
        have HP : Hid (pItems l = none) := HNN.out (by omega)
        clear h6 h12 hsz
        go_wp2_with fail
        skip
        refine (vnum_yes s 6 _ _ M0.out.vb (by have := HSZ.out; omega) (by have := HSZ.out; omega)).mono ?_
        rintro e x0 ⟨rfl, hv, hg⟩
        rw [HRR.out.1] at hv
        obtain ⟨a0, ha0⟩ : ∃ a, Pl.numVal (s.extract 0 6) = a := ⟨_, rfl⟩
        have HA0 : Hid (Pl.numVal (s.extract 0 6) = a0) := ha0
        rw [ha0]
        have N0 := M0.out.num hv hg
        obtain ⟨m0, m1, m2, m3, f0, f1, f2, f3⟩ := N0.cells
        have M1 : Hid (Iw w L w1.heap.size (w1.heap.size + 1) r' acc r1 ⟨a0, 0, 0, ⟨#[]⟩⟩ (.slice pp jj q) (x0.setCell ⟨w1.heap.size + 1, 0, none⟩ (.int .i64 a0))) := N0.put 0 _ rfl
        clear hv hg N0 M0 ha0
        go_wp2_with fail
        refine (vnum_no r1 6 _ _ M1.out.vb (by have := HSZ.out; omega)).mono ?_
        rintro e x1 ⟨rfl, hb⟩
        have HG : Hid (w.grownBy x1 (some L)) := grown_trans M1.out.gr (grown_of_below hb _)
        clear hb
        go_wp2
        simp only [bodyPost]
        refine ⟨by first | trivial | rfl, HG.out, ?_, fun _ => rfl⟩
        rintro a r9 e
        rw [HP.out] at e
        cases e
      by_cases h18 : s.size < 18
      · have HSZ : Hid ((s.size ≤ 65535 ∧ r1.size = s.size - 6 ∧ r2.size = s.size - 6 - 6) ∧ 12 ≤ s.size ∧ s.size < 18) := ⟨hsz, by omega, h18⟩
        have HP : Hid (pItems l = none) := HNN.out (by omega)
        clear h6 h12 h18 hsz
        go_wp2_with fail
        skip
        refine (vnum_yes s 6 _ _ M0.out.vb (by have := HSZ.out; omega) (by have := HSZ.out; omega)).mono ?_
        rintro e x0 ⟨rfl, hv, hg⟩
        rw [HRR.out.1] at hv
        obtain ⟨a0, ha0⟩ : ∃ a, Pl.numVal (s.extract 0 6) = a := ⟨_, rfl⟩
        have HA0 : Hid (Pl.numVal (s.extract 0 6) = a0) := ha0
        rw [ha0]
        have N0 := M0.out.num hv hg
        obtain ⟨m0, m1, m2, m3, f0, f1, f2, f3⟩ := N0.cells
        have M1 : Hid (Iw w L w1.heap.size (w1.heap.size + 1) r' acc r1 ⟨a0, 0, 0, ⟨#[]⟩⟩ (.slice pp jj q) (x0.setCell ⟨w1.heap.size + 1, 0, none⟩ (.int .i64 a0))) := N0.put 0 _ rfl
        clear hv hg N0 M0 ha0
        go_wp2_with fail
        clear m0 m1 m2 m3 f0 f1 f2 f3
        refine (vnum_yes r1 6 _ _ M1.out.vb (by have := HSZ.out; omega) (by have := HSZ.out; omega)).mono ?_
        rintro e x1 ⟨rfl, hv, hg⟩
        rw [HRR.out.2.1] at hv
        obtain ⟨a1, ha1⟩ : ∃ a, Pl.numVal (r1.extract 0 6) = a := ⟨_, rfl⟩
        have HA1 : Hid (Pl.numVal (r1.extract 0 6) = a1) := ha1
        rw [ha1]
        have N1 := M1.out.num hv hg
        obtain ⟨m0, m1, m2, m3, f0, f1, f2, f3⟩ := N1.cells
        have M2 : Hid (Iw w L w1.heap.size (w1.heap.size + 1) r' acc r2 ⟨a0, a1, 0, ⟨#[]⟩⟩ (.slice pp jj q) (x1.setCell ⟨w1.heap.size + 1, 1, none⟩ (.int .i64 a1))) := N1.put 1 _ rfl
        clear hv hg N1 M1 ha1
        go_wp2_with fail
        refine (vnum_no r2 6 _ _ M2.out.vb (by have := HSZ.out; omega)).mono ?_
        rintro e x2 ⟨rfl, hb⟩
        have HG : Hid (w.grownBy x2 (some L)) := grown_trans M2.out.gr (grown_of_below hb _)
        clear hb
        go_wp2
        simp only [bodyPost]
        refine ⟨by first | trivial | rfl, HG.out, ?_, fun _ => rfl⟩
        rintro a r9 e
        rw [HP.out] at e
        cases e
      have HSZ : Hid ((s.size ≤ 65535 ∧ r1.size = s.size - 6 ∧ r2.size = s.size - 6 - 6) ∧ 18 ≤ s.size) := ⟨hsz, by omega⟩
      clear h6 h12 h18 hsz
      go_wp2_with fail
      skip
      refine (vnum_yes s 6 _ _ M0.out.vb (by have := HSZ.out; omega) (by have := HSZ.out; omega)).mono ?_
      rintro e x0 ⟨rfl, hv, hg⟩
      rw [HRR.out.1] at hv
      obtain ⟨a0, ha0⟩ : ∃ a, Pl.numVal (s.extract 0 6) = a := ⟨_, rfl⟩
      have HA0 : Hid (Pl.numVal (s.extract 0 6) = a0) := ha0
      rw [ha0]
      have N0 := M0.out.num hv hg
      obtain ⟨m0, m1, m2, m3, f0, f1, f2, f3⟩ := N0.cells
      have M1 : Hid (Iw w L w1.heap.size (w1.heap.size + 1) r' acc r1 ⟨a0, 0, 0, ⟨#[]⟩⟩ (.slice pp jj q) (x0.setCell ⟨w1.heap.size + 1, 0, none⟩ (.int .i64 a0))) := N0.put 0 _ rfl
      clear hv hg N0 M0 ha0
      go_wp2_with fail
      clear m0 m1 m2 m3 f0 f1 f2 f3
      refine (vnum_yes r1 6 _ _ M1.out.vb (by have := HSZ.out; omega) (by have := HSZ.out; omega)).mono ?_
      rintro e x1 ⟨rfl, hv, hg⟩
      rw [HRR.out.2.1] at hv
      obtain ⟨a1, ha1⟩ : ∃ a, Pl.numVal (r1.extract 0 6) = a := ⟨_, rfl⟩
      have HA1 : Hid (Pl.numVal (r1.extract 0 6) = a1) := ha1
      rw [ha1]
      have N1 := M1.out.num hv hg
      obtain ⟨m0, m1, m2, m3, f0, f1, f2, f3⟩ := N1.cells
      have M2 : Hid (Iw w L w1.heap.size (w1.heap.size + 1) r' acc r2 ⟨a0, a1, 0, ⟨#[]⟩⟩ (.slice pp jj q) (x1.setCell ⟨w1.heap.size + 1, 1, none⟩ (.int .i64 a1))) := N1.put 1 _ rfl
      clear hv hg N1 M1 ha1
      go_wp2_with fail
      clear m0 m1 m2 m3 f0 f1 f2 f3
      refine (vnum_yes r2 6 _ _ M2.out.vb (by have := HSZ.out; omega) (by have := HSZ.out; omega)).mono ?_
      rintro e x2 ⟨rfl, hv, hg⟩
      rw [HRR.out.2.2] at hv
      obtain ⟨a2, ha2⟩ : ∃ a, Pl.numVal (r2.extract 0 6) = a := ⟨_, rfl⟩
      have HA2 : Hid (Pl.numVal (r2.extract 0 6) = a2) := ha2
      rw [ha2]
      have N2 := M2.out.num hv hg
      obtain ⟨m0, m1, m2, m3, f0, f1, f2, f3⟩ := N2.cells
      have M3 : Hid (Iw w L w1.heap.size (w1.heap.size + 1) r' acc r3 ⟨a0, a1, a2, ⟨#[]⟩⟩ (.slice pp jj q) (x2.setCell ⟨w1.heap.size + 1, 2, none⟩ (.int .i64 a2))) := N2.put 2 _ rfl
      clear hv hg N2 M2 ha2
      have HIO : Hid (itOf s = ⟨a0, a1, a2, r3⟩) := itOf_eq HRR.out HA0.out HA1.out HA2.out
      have hvc := M3.out.vb.cell
      obtain ⟨k0, k1, k2, k3, j0, j1, j2, j3⟩ := M3.out.cells
      have M4 : Hid (Iw w L w1.heap.size (w1.heap.size + 1) r' acc r3 ⟨a0, a1, a2, r3⟩ (.slice pp jj q) ((x2.setCell ⟨w1.heap.size + 1, 2, none⟩ (.int .i64 a2)).setCell ⟨w1.heap.size + 1, 3, none⟩ (.string r3))) := M3.out.put 3 _ rfl
      have M5 : Hid (Iw w L w1.heap.size (w1.heap.size + 1) r' acc r3 ⟨a0, a1, a2, r3⟩ (.slice pp jj q) (((x2.setCell ⟨w1.heap.size + 1, 2, none⟩ (.int .i64 a2)).setCell ⟨w1.heap.size + 1, 3, none⟩ (.string r3)).alloc (BI ⟨a0, a1, a2, r3⟩))) := M4.out.up (below_alloc _ _)
      have HO : Hid (AtW EM (((x2.setCell ⟨w1.heap.size + 1, 2, none⟩ (.int .i64 a2)).setCell ⟨w1.heap.size + 1, 3, none⟩ (.string r3)).alloc (BI ⟨a0, a1, a2, r3⟩)) (.slice (some ⟨x2.heap.size, 0, none⟩) 1 1) [⟨a0, a1, a2, r3⟩]) := by
        have hh := heap_alloc_new ((x2.setCell ⟨w1.heap.size + 1, 2, none⟩ (.int .i64 a2)).setCell ⟨w1.heap.size + 1, 3, none⟩ (.string r3)) (BI ⟨a0, a1, a2, r3⟩)
        have e : ((x2.setCell ⟨w1.heap.size + 1, 2, none⟩ (.int .i64 a2)).setCell ⟨w1.heap.size + 1, 3, none⟩ (.string r3)).heap.size = x2.heap.size := by simp [World.setCell]
        rw [e] at hh
        exact at_oneIt hh
      clear M3 M4
      go_wp2_with (at_builtin; (refine wpList_row _ rfl _ _ 23 rfl EM (fun _ => True) w.heap.size 50 i0 _ 40 Tryd.underlying23 hi hz0 hz1 hz2 rfl _ acc (by rfl) M5.out.row _ [⟨a0, a1, a2, r3⟩] (by rfl) HO.out (by have := HLN.out; unfold maxLen; simp only [List.length_cons, List.length_nil]; omega) (by have := HLN.out; simp only [List.length_cons, List.length_nil]; omega) M5.out.gr.size ?_; intro v9 w9 hrow9 hg9 hloc9; have hM9 := M5.out.app hrow9 hg9; obtain ⟨p9, n9, c9, rfl⟩ := hM9.2.1.slice3; have M9 : Hid ((∃ v, Lt w9 L v r') ∧ Row EM w9 w.heap.size 50 (.slice p9 n9 c9) (acc ++ [⟨a0, a1, a2, r3⟩]) ∧ w.grownBy w9 (some L)) := hM9; clear hrow9 hg9 hloc9 hM9))
      obtain ⟨v9, hv9⟩ := M9.out.1
      go_roundw
      case rel => exact ⟨r', acc ++ [⟨a0, a1, a2, r3⟩], p9, n9, c9, rfl, ⟨⟨v9, hv9⟩, M9.out.2.1, M9.out.2.2, HR.out.hL, by rw [← HIO.out]; exact HYY.out HSZ.out.2, fun x hx => HR.out.sz x (List.mem_cons_of_mem _ hx), by have := HLN.out; simp; omega⟩⟩
      case measure => rw [hv9.left, HLF.out]; simp
end Go.Proofs.YtlmoibicepppmaaDoor
