/-
  The lives, taken off a letter.
-/
import Derived.Test.YtlmoibicepppmaaDoorWMan
namespace Go.Proofs.YtlmoibicepppmaaDoor
open Go.ChangeShapes Go.WideShapes Go.ChangeAt Go.RowKit Go.Deep Me
set_option maxRecDepth 100000
/-- The lives, off a list of fields. -/
def pLives : List (Int × ByteArray) → Option (List Int × List (Int × ByteArray))
  | [] => some ([], [])
  | (t, s) :: l => if t = 9 then (if s.size = 6 then (pLives l).map fun q => (Pl.numVal s :: q.1, q.2) else none) else some ([], (t, s) :: l)
theorem pLives_skip {l : List (Int × ByteArray)} (hl : ∀ x, l.head? = some x → x.1 ≠ 9) : pLives l = some ([], l) := by
  match l, hl with
  | [], _ => rfl
  | (t, s) :: l, hl => simp only [pLives]; rw [if_neg (hl _ rfl)]
theorem infoI : (Tryd.prog.info? 3).map (fun i => (i.zero, i.size, i.bytes)) = some (some (.int .i64 0), 1, 8) := by kernel_rfl
theorem at_oneI {w : World} {A : Nat} {y : Int} (h : w.heap[A]? = some (.cells #[.int .i64 y] 3)) : AtW EI w (.slice (some ⟨A, 0, none⟩) 1 1) [y] := by
  refine .inr ⟨A, 0, 1, rfl, trivial, (Array.getElem?_eq_some_iff.1 h).1, by simp, by simp, by unfold maxLen; omega, fun j u hj => ?_⟩
  have c0 : w.cell? ⟨A, 0, none⟩ = some (.int .i64 y) := by simp [World.cell?, h]
  match j, hj with
  | 0, hj => simp [Enc.flat, EI] at hj; subst hj; exact c0
theorem Row.stay {α : Type} {E : Enc α} {w w' : World} {B X : Nat} {e : TypeId} {v : Value} {ls : List α} (h : Row E w B e v ls) (hg : w.grownBy w' (some X)) (hne : v.ownBlock ≠ some X) : Row E w' B e v ls := by
  rcases h with h | ⟨g, cap, cur, rfl, hB, hh, hr⟩
  · exact .inl h
  · refine .inr ⟨g, cap, cur, rfl, hB, (hg.block g (block_lt hh) (fun e => hne ?_)).trans hh, hr⟩
    simp at e
    subst e
    rfl
theorem Row.ne_low {α : Type} {E : Enc α} {w : World} {B X : Nat} {e : TypeId} {v : Value} {ls : List α} (h : Row E w B e v ls) (hX : X < B) : v.ownBlock ≠ some X := by
  rcases h with ⟨rfl, -⟩ | ⟨g, cap, cur, rfl, hB, -⟩
  · simp [Value.ownBlock]
  · simp [Value.ownBlock]; omega
theorem Row.ne_kind {α : Type} {E : Enc α} {w : World} {B X : Nat} {e e' : TypeId} {v : Value} {ls : List α} {cs : Array Value} {z : Nat × Nat} (h : Row E w B e v ls) (h' : w.heap[X]? = some (.cells cs e' z)) (he : e ≠ e') : v.ownBlock ≠ some X := by
  rcases h.off h' he with e | e
  · rw [e]; simp
  · exact e
/-- How many fields are left. -/
def leftOf (L : Nat) (w : World) : Nat := match w.cell? ⟨L, 0, none⟩ with
  | some (.slice _ n _) => n
  | _ => 0
theorem Lt.left {w : World} {L : Nat} {v : Value} {l : List (Int × ByteArray)} (h : Lt w L v l) : leftOf L w = l.length := by
  unfold leftOf
  rw [h.box.cell]
  rcases h.row with ⟨ao, cap, rfl, rfl⟩ | ⟨b, off, cap, rfl, -⟩
  · rfl
  · rfl
/-- What holds at each round's head. -/
structure Lv (w0 : World) (L : Nat) (l r : List (Int × ByteArray)) (acc : List Int) (u : Value) (w : World) : Prop where
  lt : ∃ v, Lt w L v r
  row : Row EI w w0.heap.size 3 u acc
  gr : w0.grownBy w (some L)
  hL : L < w0.heap.size
  eq : pLives l = (pLives r).map fun q => (acc ++ q.1, q.2)
  sz : ∀ x ∈ r, x.2.size ≤ 65535
  len : acc.length + r.length ≤ 60000
theorem Lv.start {w : World} {L : Nat} {v : Value} {l : List (Int × ByteArray)} (h : Lt w L v l) (hs : ∀ x ∈ l, x.2.size ≤ 65535) (hl : l.length ≤ 60000) : Lv w L l l [] (.slice none 0 0) w :=
  ⟨⟨v, h⟩, Row.nil _ _ _ _, grown_refl _ _, h.box.lt, by cases pLives l <;> simp, hs, by simpa using hl⟩
/-- Behind a field's taking: the value in a box of its own. -/
structure Lw (w0 : World) (L X : Nat) (l r : List (Int × ByteArray)) (acc : List Int) (s : ByteArray) (u : Value) (w : World) : Prop where
  lt : ∃ v, Lt w L v r
  row : Row EI w w0.heap.size 3 u acc
  gr : w0.grownBy w (some L)
  vb : Vb w X s
  hL : L < w0.heap.size
  hX : w0.heap.size ≤ X
theorem Lw.num {w0 w w' : World} {L X : Nat} {l r : List (Int × ByteArray)} {acc : List Int} {s s' : ByteArray} {u : Value} (h : Lw w0 L X l r acc s u w) (hv : Vb w' X s') (hg : w.grownBy w' (some X)) : Lw w0 L X l r acc s' u w' := by
  have h1 := h.hL; have h2 := h.hX
  obtain ⟨v, hl⟩ := h.lt
  exact ⟨⟨v, hl.grown (by omega) hg⟩, h.row.stay hg (h.row.ne_kind h.vb (by decide)), grown_new h.gr (by omega) hg, hv, h1, h2⟩
theorem Lw.up {w0 w w' : World} {L X : Nat} {l r : List (Int × ByteArray)} {acc : List Int} {s : ByteArray} {u : Value} (h : Lw w0 L X l r acc s u w) (hb : Below w.heap.size w w') : Lw w0 L X l r acc s u w' := by
  obtain ⟨v, hl⟩ := h.lt
  exact ⟨⟨v, hl.up hb⟩, h.row.up hb, grown_trans h.gr (grown_of_below hb _), h.vb.kept (grown_of_below hb none) (by simp), h.hL, h.hX⟩
theorem Lw.app {w0 w w' : World} {L X : Nat} {l r : List (Int × ByteArray)} {acc acc' : List Int} {s : ByteArray} {u u' : Value} (h : Lw w0 L X l r acc s u w) (hr : Row EI w' w0.heap.size 3 u' acc') (hg : w.grownBy w' u.ownBlock) : Lw w0 L X l r acc' s u' w' := by
  have h1 := h.hL; have h2 := h.hX
  have hX := h.row.ne_kind h.vb (by decide)
  have hlow : ∀ k, k < w0.heap.size → some k ≠ u.ownBlock := fun k hk e => h.row.ne_low hk e.symm
  obtain ⟨v, hl⟩ := h.lt
  refine ⟨⟨v, hl.box.kept hg (hlow L h1), hl.row.below (C := L) ⟨hg.os, hg.tape, hg.output, hg.size, fun k hk => hg.block k (by have := hl.box.lt; omega) (hlow k (by omega))⟩ (Nat.le_refl _)⟩, hr, ?_, h.vb.kept hg (fun e => hX e.symm), h1, h2⟩
  exact ⟨hg.os.trans h.gr.os, hg.tape.trans h.gr.tape, hg.output.trans h.gr.output, Nat.le_trans h.gr.size hg.size, fun k hk hne => (hg.block k (by have := h.gr.size; omega) (hlow k hk)).trans (h.gr.block k hk hne)⟩
set_option maxRecDepth 100000 in
set_option maxRecDepth 100000 in
set_option maxHeartbeats 2000000 in
theorem lives_any (L : Nat) (v : Value) (l : List (Int × ByteArray)) (w : World) (h : Lt w L v l) (hs : ∀ x ∈ l, x.2.size ≤ 65535) (hl : l.length ≤ 60000) : Calls Tryd.prog 63 #[.pointer (some ⟨L, 0, none⟩)] w (Rd L w (pLives l) fun a u w' => Row EI w' w.heap.size 3 u a) := by
  have H0 : Hid (Lv w L l l [] (.slice none 0 0) w) := Lv.start h hs hl
  obtain ⟨i0, hi, hz0, hz1, hz2⟩ := info_parts infoI
  clear h hs hl
  go_enter Tryd.func63, Tryd.ntmps63
  go_wp2
  go_loopw [3] (fun u wr => ∃ (r : List (Int × ByteArray)) (acc : List Int) (pp : Option Addr) (jj q : Nat), u = .slice pp jj q ∧ Hid (Lv w L l r acc (.slice pp jj q) wr)) (fun _ wr => leftOf L wr)
  case atStart => exact ⟨l, [], none, 0, 0, rfl, H0.out⟩
  case round =>
    obtain ⟨r, acc, pp, jj, q, rfl, HR⟩ := hrel
    clear H0
    obtain ⟨v1, hv1⟩ := HR.out.lt
    have HV : Hid (Lt wr L v1 r) := hv1
    have hlf := hv1.left
    have HLF : Hid (leftOf L wr = r.length) := hlf
    clear hv1 hlf
    by_cases hd : ∀ x, r.head? = some x → x.1 ≠ 9
    · have HP : Hid (pLives l = some (acc, r)) := by
        show _ = _
        rw [HR.out.eq, pLives_skip hd]
        simp
      have HD : Hid (∀ x, r.head? = some x → x.1 ≠ 9) := hd
      clear hd
      go_wp2_with fail
      refine (next_skip 9 L v1 r _ HV.out HD.out).mono ?_
      rintro e w1 ⟨rfl, hb1⟩
      have HB : Hid (Below wr.heap.size wr (w1.alloc (BV ⟨#[]⟩))) := bup hb1 (below_alloc _ _)
      clear hb1
      go_wp2
      go_ret
      refine ⟨grown_trans HR.out.gr (grown_of_below HB.out _), ?_, fun h => by rw [HP.out] at h; cases h⟩
      rintro a r2 e
      rw [HP.out] at e
      simp only [Option.some.injEq, Prod.mk.injEq] at e
      obtain ⟨rfl, rfl⟩ := e
      exact ⟨⟨_, rfl, HR.out.row.up HB.out⟩, v1, HV.out.up HB.out⟩
    · obtain ⟨s, r', hrr⟩ : ∃ s r', r = (9, s) :: r' := by
        match r, hd with
        | [], hd => exact absurd (by simp) hd
        | (t, s) :: r', hd =>
          by_cases ht : t = 9
          · exact ⟨s, r', by rw [ht]⟩
          · exact absurd (by intro x hx; simp at hx; subst hx; exact ht) hd
      subst hrr
      clear hd
      have HSS : Hid (s.size ≤ 65535) := HR.out.sz _ (List.mem_cons_self ..)
      have HNN : Hid (¬ s.size = 6 → pLives l = none) := fun h => by
        rw [HR.out.eq]
        simp only [pLives, if_true]
        rw [if_neg h]
        rfl
      have HYY : Hid (s.size = 6 → pLives l = (pLives r').map fun q => ((acc ++ [Pl.numVal s]) ++ q.1, q.2)) := fun h => by
        rw [HR.out.eq]
        simp only [pLives, if_true]
        rw [if_pos h]
        cases pLives r' <;> simp
      have HLN : Hid (acc.length + (r'.length + 1) ≤ 60000) := HR.out.len
      go_wp2_with fail
      refine (next_yes 9 s r' L v1 _ HV.out).mono ?_
      rintro e w1 ⟨rfl, ⟨v2, hl2⟩, hg1⟩
      have M0 : Hid (Lw w L w1.heap.size l r' acc s (.slice pp jj q) (w1.alloc (BV s))) := by
        have h1 := HR.out.hL
        have h2 := grown_trans HR.out.gr hg1
        exact ⟨⟨v2, hl2.up (below_alloc _ _)⟩, (HR.out.row.stay hg1 (HR.out.row.ne_low h1)).up (below_alloc _ _), grown_trans h2 (grown_of_below (below_alloc _ _) _), Boxed.new _ _ _, h1, h2.size⟩
      clear hg1 hl2
      by_cases h6 : s.size < 6
      · have H6 : Hid ((s.size : Int) < 6) := by show _ < _; omega
        have HP : Hid (pLives l = none) := HNN.out (by omega)
        go_wp2_with fail
        refine (vnum_no s 6 _ _ M0.out.vb H6.out).mono ?_
        rintro e w2 ⟨rfl, hb2⟩
        have HG : Hid (w.grownBy w2 (some L)) := grown_trans M0.out.gr (grown_of_below hb2 _)
        clear hb2
        go_wp2
        simp only [bodyPost]
        refine ⟨by first | trivial | rfl, HG.out, ?_, fun _ => rfl⟩
        rintro a r2 e
        rw [HP.out] at e
        cases e
      · have H6 : Hid (6 ≤ s.size) := by show _ ≤ _; omega
        go_wp2_with fail
        refine (vnum_yes s 6 _ _ M0.out.vb H6.out (by have := HSS.out; omega)).mono ?_
        rintro e w2 ⟨rfl, hv2, hg2⟩
        obtain ⟨y, hy⟩ : ∃ y, Pl.numVal (s.extract 0 6) = y := ⟨_, rfl⟩
        have HY : Hid (Pl.numVal (s.extract 0 6) = y) := hy
        rw [hy]
        have M1 : Hid (Lw w L w1.heap.size l r' acc (s.extract 6 s.size) (.slice pp jj q) (w2.alloc (.cells #[.int .i64 y] 3))) := (M0.out.num hv2 hg2).up (below_alloc _ _)
        have HO : Hid (AtW EI (w2.alloc (.cells #[.int .i64 y] 3)) (.slice (some ⟨w2.heap.size, 0, none⟩) 1 1) [y]) := at_oneI (heap_alloc_new _ _)
        clear hv2 hg2 hy M0
        by_cases h7 : s.size = 6
        · have hem : (s.extract 6 s.size).toList.isEmpty = true := toList_none (by rw [ByteArray.size_extract]; omega)
          go_wp2_with (at_builtin; refine wpList_row _ rfl _ _ 22 rfl EI (fun _ => True) w.heap.size 3 i0 _ 8 Tryd.underlying22 hi hz0 hz1 hz2 rfl _ acc (by rfl) M1.out.row _ [y] (by rfl) HO.out (by have := HLN.out; unfold maxLen; simp only [List.length_cons, List.length_nil]; omega) (by have := HLN.out; simp only [List.length_cons, List.length_nil]; omega) M1.out.gr.size ?_; intro v9 w9 hrow9 hg9 hloc9; have hM9 := M1.out.app hrow9 hg9; obtain ⟨p9, n9, c9, rfl⟩ := hM9.row.slice3; have M9 : Hid (Lw w L w1.heap.size l r' (acc ++ [y]) (s.extract 6 s.size) (.slice p9 n9 c9) w9) := hM9; have hc9 := hM9.vb.cell; clear hrow9 hg9 hloc9 hM9)
          refine (need_yes _).mono ?_
          rintro e w3 ⟨rfl, rfl⟩
          go_wp2
          have hys : y = Pl.numVal s := by rw [← HY.out, ← h7, extract_all']
          obtain ⟨v9, hv9⟩ := M9.out.lt
          go_roundw
          case rel => exact ⟨r', acc ++ [y], p9, n9, c9, rfl, ⟨⟨v9, hv9⟩, M9.out.row, M9.out.gr, M9.out.hL, by rw [hys]; exact HYY.out h7, fun x hx => HR.out.sz x (List.mem_cons_of_mem _ hx), by have := HLN.out; simp; omega⟩⟩
          case measure => rw [hv9.left, HLF.out]; simp
        · have hem : (s.extract 6 s.size).toList.isEmpty = false := toList_full (by rw [ByteArray.size_extract]; omega)
          have HP : Hid (pLives l = none) := HNN.out h7
          go_wp2_with (at_builtin; refine wpList_row _ rfl _ _ 22 rfl EI (fun _ => True) w.heap.size 3 i0 _ 8 Tryd.underlying22 hi hz0 hz1 hz2 rfl _ acc (by rfl) M1.out.row _ [y] (by rfl) HO.out (by have := HLN.out; unfold maxLen; simp only [List.length_cons, List.length_nil]; omega) (by have := HLN.out; simp only [List.length_cons, List.length_nil]; omega) M1.out.gr.size ?_; intro v9 w9 hrow9 hg9 hloc9; have hM9 := M1.out.app hrow9 hg9; obtain ⟨p9, n9, c9, rfl⟩ := hM9.row.slice3; have M9 : Hid (Lw w L w1.heap.size l r' (acc ++ [y]) (s.extract 6 s.size) (.slice p9 n9 c9) w9) := hM9; have hc9 := hM9.vb.cell; clear hrow9 hg9 hloc9 hM9)
          refine (need_no _).mono ?_
          rintro e w3 ⟨rfl, rfl⟩
          go_wp2
          simp only [bodyPost]
          refine ⟨by first | trivial | rfl, M9.out.gr, ?_, fun _ => rfl⟩
          rintro a r2 e
          rw [HP.out] at e
          cases e
end Go.Proofs.YtlmoibicepppmaaDoor
