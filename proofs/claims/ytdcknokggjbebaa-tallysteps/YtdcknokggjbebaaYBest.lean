/-
  tally.Clear, Best.
-/
import Derived.Test.YtdcknokggjbebaaYAdd
namespace Go.Proofs.Ytdcknokggjbebaa
open Go.ChangeShapes Go.WideShapes Go.ChangeAt Go.RowKit Go.Deep
theorem Ty.drop_del {L : List Bd} (h : Ty.Inc L) {k : Nat} {x : Bd} (hx : L[k]? = some x) : Ty.del (L.drop k) x.1 = L.drop (k + 1) := by
  have hlt := (List.getElem?_eq_some_iff.1 hx).1
  have e : L.drop k = x :: L.drop (k + 1) := by
    rw [List.drop_eq_getElem_cons hlt, (List.getElem?_eq_some_iff.1 hx).2]
  have hi : Ty.Inc (x :: L.drop (k + 1)) := by rw [← e]; exact h.drop
  rw [e]
  unfold Ty.del
  rw [List.filter_cons]
  simp only [beq_self_eq_true, Bool.not_true, Bool.false_eq_true, if_false]
  exact List.filter_eq_self.2 fun y hy => by have := Ty.inc_head hi y hy; simp; omega
theorem tclear_nil (w : World) : Calls Try.prog 15 #[.pointer none] w fun e w' => e = .returned (.tuple #[]) ∧ w' = w := by
  go_enter Try.func15, Try.ntmps15
  go_wp2_with fail
  refine (tNodes_nil _).mono ?_
  rintro e w' ⟨rfl, rfl⟩
  go_wp2
  refine wp_loop_rounds 1 ?_
  rw [rounds_succ]
  go_wp2
  go_end0
  exact ⟨rfl, rfl⟩
set_option maxRecDepth 100000 in
set_option maxHeartbeats 4000000 in
theorem tclear_any {s bm : Nat} {m f : Int} {L : List Bd} (w : World) (h : TA w s bm m f L) : Calls Try.prog 15 #[.pointer (some ⟨s, 0, none⟩)] w fun e w' => e = .returned (.tuple #[]) ∧ TA w' s bm m f [] ∧ w.grownBy w' (some bm) := by
  have H : Hid (TA w s bm m f L) := h
  have HL7 : Hid (L.length ≤ 7) := Ty.len_le h.is h.ma.inc h.ma.fits
  clear h
  go_enter Try.func15, Try.ntmps15
  go_wp2_with fail
  refine (tNodes_any _ H.out).mono ?_
  rintro e w1 ⟨v, rfl, hr, hb1⟩
  obtain ⟨ao, cap, rfl, -, hx⟩ := hr.at.open
  rw [List.length_map]
  obtain ⟨n, hn⟩ : ∃ n, L.length = n := ⟨_, rfl⟩
  have HN : Hid (L.length = n) := hn
  have HX : Hid (∀ i x, (L.map (·.1))[i]? = some x → ∃ b off, ao = some ⟨b, off, none⟩ ∧ w.heap.size ≤ b ∧ b < w1.heap.size ∧ ∀ k u, (EI.cells x)[k]? = some u → w1.cell? ⟨b, off + (i * EI.sz + k), none⟩ = some u) := hx
  have HT1 : Hid (TA w1 s bm m f L) := H.out.up hb1
  have HG1 : Hid (w.grownBy w1 (some bm)) := grown_of_below hb1 _
  have HBM : Hid (bm < w.heap.size) := H.out.lt.2.1
  have hn7 : n ≤ 7 := by rw [← hn]; exact HL7.out
  rw [hn]
  clear hr hb1 hx hn
  go_wp2
  go_loopw [7] (fun i wr => ∃ k : Nat, k ≤ n ∧ i = .int .i64 k ∧ Hid (TA wr s bm m f (L.drop k)) ∧ Hid (w1.grownBy wr (some bm))) (fun i _ => n - (intOf i).toNat)
  case atStart => exact ⟨0, Nat.zero_le _, rfl, HT1.out, grown_refl _ _⟩
  case round =>
    obtain ⟨k, hk, rfl, HT, HG⟩ := hrel
    by_cases hlt : k < n
    · obtain ⟨x, hxk⟩ : ∃ x, L[k]? = some x := ⟨_, List.getElem?_eq_getElem (by rw [HN.out]; exact hlt)⟩
      obtain ⟨b, off, rfl, hwb, hB, hc⟩ := HX.out k x.1 (by rw [List.getElem?_map, hxk]; rfl)
      have c0 := hc 0 _ rfl
      rw [← cell_block (w' := wr) (w := w1) (p := ⟨b, off + (k * EI.sz + 0), none⟩) (HG.out.block b hB (fun e => by have := HBM.out; have := Option.some.inj e; omega))] at c0
      rw [show EI.sz = 1 from rfl, Nat.mul_one, Nat.add_zero] at c0
      have c1 := HT.out.c1
      have hlt' : (k : Int) < (n : Int) := by omega
      obtain ⟨M, hM, hp⟩ := HT.out.ma.map
      have HM : Hid (IM wr bm (rows M)) := hM
      have HP : Hid (M.Perm (L.drop k)) := hp
      have HD : Hid (Ty.del (L.drop k) x.1 = L.drop (k + 1)) := Ty.drop_del H.out.ma.inc hxk
      clear hM hp hc hxk
      go_wp2_with (first | (at_delete; refine wpList_idel Try.underlying63 _ rfl _ _ 3 rfl bm (rows M) x.1 rfl rfl HM.out ?_; intro w2 hm2 hg2) | go_in)
      have HE : Hid (TA w2 s bm m f (L.drop (k + 1)) ∧ w1.grownBy w2 (some bm)) := ⟨by rw [← HD.out]; exact HT.out.put hg2 (HT.out.ma.del HP.out x.1 hm2), grown_trans HG.out hg2⟩
      clear hm2 hg2 c0 c1
      go_wp2
      go_roundw
      case rel => exact ⟨k + 1, by omega, by go_num, HE.out.1, HE.out.2⟩
      case measure => simp [intOf]; omega
    · obtain rfl : k = n := by omega
      have HE : Hid (TA wr s bm m f []) := by have := HT.out; rwa [← HN.out, List.drop_length] at this
      go_wp2
      go_end0
      exact ⟨rfl, HE.out, grown_trans HG1.out HG.out⟩
theorem set_bid {w : World} {A : Nat} {x y : Bd} {T : TypeId} (h : w.heap[A]? = some (.cells #[.int .i64 x.1, .int .i64 x.2.1, .int .i64 x.2.2] T)) : (((w.setCell ⟨A, 0, none⟩ (.int .i64 y.1)).setCell ⟨A, 1, none⟩ (.int .i64 y.2.1)).setCell ⟨A, 2, none⟩ (.int .i64 y.2.2)).heap[A]? = some (.cells #[.int .i64 y.1, .int .i64 y.2.1, .int .i64 y.2.2] T) := by
  have h1 : (w.setCell ⟨A, 0, none⟩ (.int .i64 y.1)).heap[A]? = some (.cells #[.int .i64 y.1, .int .i64 x.2.1, .int .i64 x.2.2] T) := by
    rw [setCell_eq_setRow w A 0 _ _ _ _ h, setRow_heap w A _ _ _ _ h]
    rfl
  have h2 : ((w.setCell ⟨A, 0, none⟩ (.int .i64 y.1)).setCell ⟨A, 1, none⟩ (.int .i64 y.2.1)).heap[A]? = some (.cells #[.int .i64 y.1, .int .i64 y.2.1, .int .i64 x.2.2] T) := by
    rw [setCell_eq_setRow _ A 1 _ _ _ _ h1, setRow_heap _ A _ _ _ _ h1]
    rfl
  rw [setCell_eq_setRow _ A 2 _ _ _ _ h2, setRow_heap _ A _ _ _ _ h2]
  rfl
theorem set_bid_other {w : World} {A B : Nat} {a b c : Value} (h : B ≠ A) : (((w.setCell ⟨A, 0, none⟩ a).setCell ⟨A, 1, none⟩ b).setCell ⟨A, 2, none⟩ c).heap[B]? = w.heap[B]? := by
  have e : ∀ (w : World) (j : Nat) (v : Value), (w.setCell ⟨A, j, none⟩ v).heap[B]? = w.heap[B]? := fun w j v => Below.heap_setCell _ _ _ B (fun e => h e)
  rw [e, e, e]
theorem tbest_nil (w : World) : Calls Try.prog 16 #[.pointer none] w fun e w' => e = .returned (.tuple #[VB (0, 0, 0), .int .i64 6]) ∧ w.grownBy w' none := by
  have HG : Hid (w.grownBy (w.alloc (BB (0, 0, 0))) none) := World.grownBy_alloc _ _ none
  go_enter Try.func16, Try.ntmps16
  go_wp2_with fail
  refine (tNodes_nil _).mono ?_
  rintro e w' ⟨rfl, rfl⟩
  go_wp2
  refine bodyPost_ret (v := .tuple #[VB (0, 0, 0), .int .i64 6]) (by simp [results, Try.results16, go_sem]) rfl ⟨rfl, HG.out⟩
theorem Ty.take_at {L : List Bd} {k : Nat} {x : Bd} (h : L[k]? = some x) : L.take (k + 1) = L.take k ++ [x] := by
  rw [List.take_add_one, h]
  rfl
set_option maxRecDepth 100000 in
set_option maxHeartbeats 8000000 in
theorem tbest_any {s bm : Nat} {m f : Int} {L : List Bd} (w : World) (h : TA w s bm m f L) : Calls Try.prog 16 #[.pointer (some ⟨s, 0, none⟩)] w fun e w' => e = .returned (.tuple #[VB (Ty.best L), .int .i64 (Ty.bestE L)]) ∧ Below w.heap.size w w' := by
  have H : Hid (TA w s bm m f L) := h
  have HL7 : Hid (L.length ≤ 7) := Ty.len_le h.is h.ma.inc h.ma.fits
  obtain ⟨W, hW⟩ : ∃ W, w.alloc (BB (0, 0, 0)) = W := ⟨_, rfl⟩
  have HW : Hid (w.alloc (BB (0, 0, 0)) = W) := hW
  have HBW : Hid (Below w.heap.size w W) := by rw [← hW]; exact (Below.refl _ _).alloc (Nat.le_refl _) _
  have HTW : Hid (TA W s bm m f L) := h.up HBW.out
  obtain ⟨R, hR⟩ : ∃ R, w.heap.size = R := ⟨_, rfl⟩
  have HR : Hid (w.heap.size = R) := hR
  have HX : Hid (W.heap[R]? = some (BB (0, 0, 0))) := by rw [← hW, ← hR]; exact heap_alloc_new _ _
  clear h hW hR
  go_enter Try.func16, Try.ntmps16
  go_wp2_with fail
  rw [HW.out, HR.out]
  refine (tNodes_any _ HTW.out).mono ?_
  rintro e w1 ⟨v, rfl, hr, hb1⟩
  have HR1 : Hid (w1.heap[R]? = some (BB (0, 0, 0))) := (hb1.block R (Array.getElem?_eq_some_iff.1 HX.out).1).trans HX.out
  have HT1 : Hid (TA w1 s bm m f L) := HTW.out.up hb1
  have HB1 : Hid (Below w.heap.size w w1) := HBW.out.trans (hb1.mono HBW.out.size)
  obtain ⟨ao, cap, rfl, -, hx⟩ := hr.at.open
  rw [List.length_map]
  obtain ⟨n, hn⟩ : ∃ n, L.length = n := ⟨_, rfl⟩
  have HN : Hid (L.length = n) := hn
  have HXX : Hid (∀ i x, (L.map (·.1))[i]? = some x → ∃ b off, ao = some ⟨b, off, none⟩ ∧ W.heap.size ≤ b ∧ b < w1.heap.size ∧ ∀ k u, (EI.cells x)[k]? = some u → w1.cell? ⟨b, off + (i * EI.sz + k), none⟩ = some u) := hx
  have hn7 : n ≤ 7 := by rw [← hn]; exact HL7.out
  have hRW : R ≤ w1.heap.size := Nat.le_of_lt (Array.getElem?_eq_some_iff.1 HR1.out).1
  rw [hn]
  clear hr hb1 hx hn
  by_cases hz : n = 0
  · have HE : Hid (Ty.best L = (0, 0, 0) ∧ Ty.bestE L = 6) := by
      have : L = [] := List.eq_nil_of_length_eq_zero (by rw [HN.out]; exact hz)
      subst this
      exact ⟨rfl, rfl⟩
    have hz' : ((n : Int) == 0) = true := by simp [hz]
    obtain ⟨⟨c0, c1, c2⟩, hfr⟩ := bid_of HR1.out
    have HB2 : Hid (Below w.heap.size w (((w1.setCell ⟨R, 0, none⟩ (.int .i64 0)).setCell ⟨R, 1, none⟩ (.int .i64 0)).setCell ⟨R, 2, none⟩ (.int .i64 0))) := Below.setCell (Below.setCell (Below.setCell HB1.out (by rw [HR.out]; exact Nat.le_refl _) _) (by rw [HR.out]; exact Nat.le_refl _) _) (by rw [HR.out]; exact Nat.le_refl _) _
    clear hz
    go_wp2
    (try simp only [Exit.inBlock, Exit.then])
    refine bodyPost_ret (v := .tuple #[VB (0, 0, 0), .int .i64 6]) ?_ rfl ⟨by rw [HE.out.1, HE.out.2], ?_⟩
    · rw [results_cell_tmp rfl]
      go_simp
    · repeat (with_reducible refine Below.setCell ?_ (by rw [HR.out]; exact Nat.le_refl _) _)
      exact HB1.out
  · have hz' : ((n : Int) == 0) = false := by simp; omega
    have hn0 : 0 < n := by omega
    have hn0' : (0 : Int) < (n : Int) := by omega
    obtain ⟨x, hx0⟩ : ∃ x, L[0]? = some x := ⟨_, List.getElem?_eq_getElem (by rw [HN.out]; exact hn0)⟩
    have HX0 : Hid (L[0]? = some x) := hx0
    have HGX : Hid (Ty.get L x.1 = x) := Ty.get_mem H.out.ma.inc (List.mem_of_getElem? hx0)
    have HBEST : Hid (Ty.best L = Ty.top x L ∧ Ty.bestE L = 0) := by
      cases L with
      | nil => simp at hx0
      | cons y L => simp at hx0; subst hx0; exact ⟨rfl, rfl⟩
    obtain ⟨b, off, rfl, hbW, hB, hc⟩ := HXX.out 0 x.1 (by rw [List.getElem?_map, hx0]; rfl)
    have HC0 : Hid (w1.cell? ⟨b, off, none⟩ = some (.int .i64 x.1)) := by have := hc 0 _ rfl; rwa [show EI.sz = 1 from rfl, Nat.mul_one, Nat.add_zero] at this
    have HS : Hid (∀ V, Below w1.heap.size w1 V → V.cell? ⟨s, 1, none⟩ = some (.map (some bm)) ∧ V.cell? ⟨b, off, none⟩ = some (.int .i64 x.1) ∧ (Instr.lookup 63 (.map (some bm)) (.int .i64 x.1) false).run Try.prog V = .ok (VB x) V) := fun V hV => by
      have h1 := HT1.out.up hV
      refine ⟨h1.c1, (hV.cell (p := ⟨b, off, none⟩) hB).trans HC0.out, ?_⟩
      have := h1.ma.look1 x.1
      rwa [HGX.out] at this
    have hRR : R ≠ w1.heap.size := by have := (Array.getElem?_eq_some_iff.1 HR1.out).1; omega
    clear hz hc hx0
    go_wp2_with fail
    go_region_held3 (fun V => V.cell? ⟨s, 1, none⟩ = some (.map (some bm)) ∧ V.cell? ⟨b, off, none⟩ = some (.int .i64 x.1) ∧ (Instr.lookup 63 (.map (some bm)) (.int .i64 x.1) false).run Try.prog V = .ok (VB x) V) (first | exact HS.out _ (by (repeat (first | with_reducible assumption | with_reducible exact Below.refl _ _ | with_reducible refine bel_drew ?_ | with_reducible refine Below.setCell ?_ (by first | exact Nat.le_refl _ | assumption | (simp; done)) _ | with_reducible refine Below.alloc ?_ (by first | exact Nat.le_refl _ | assumption) _)))) (fail)
    all_goals
      obtain ⟨V, hV⟩ : ∃ V, (w1.alloc (.cells #[.int .i64 x.1, .int .i64 x.2.1, .int .i64 x.2.2] 32)).drew = V := ⟨_, rfl⟩
      have HV : Hid (Below w1.heap.size w1 V) := by rw [← hV]; exact bel_drew ((Below.refl _ _).alloc (Nat.le_refl _) _)
      obtain ⟨B, hBB⟩ : ∃ B, w1.heap.size = B := ⟨_, rfl⟩
      have HBX : Hid (V.heap[B]? = some (BB x)) := by rw [← hV, ← hBB]; exact heap_alloc_new w1 _
      have HBB : Hid (w1.heap.size = B) := hBB
      rw [hV, hBB]
      have hRB : R < B := by have := (Array.getElem?_eq_some_iff.1 HR1.out).1; omega
      have hbB : b < B := by omega
      clear hV hBB hRR hB
      go_wp2
      go_loopw [25] (fun i wr => ∃ k : Nat, k ≤ n ∧ i = .int .i64 k ∧ Hid (wr.heap[B]? = some (BB (Ty.top x (L.take k)))) ∧ Hid (Below B w1 wr)) (fun i _ => n - (intOf i).toNat)
      case atStart => exact ⟨0, Nat.zero_le _, rfl, by rw [List.take_zero]; exact HBX.out, by rw [← HBB.out]; exact HV.out⟩
      case round =>
        obtain ⟨k, hk, rfl, HX1, HBK⟩ := hrel
        have HB1' : Hid (Below w1.heap.size w1 wr) := by rw [HBB.out]; exact HBK.out
        have HTK : Hid (TA wr s bm m f L) := HT1.out.up HB1'.out
        have hBl : B < wr.heap.size := (Array.getElem?_eq_some_iff.1 HX1.out).1
        by_cases hlt : k < n
        · obtain ⟨y, hyk⟩ : ∃ y, L[k]? = some y := ⟨_, List.getElem?_eq_getElem (by rw [HN.out]; exact hlt)⟩
          obtain ⟨b2, off2, hb2, -, hB2, hc⟩ := HXX.out k y.1 (by rw [List.getElem?_map, hyk]; rfl)
          simp only [Option.some.injEq, Addr.mk.injEq, and_true] at hb2
          obtain ⟨rfl, rfl⟩ := hb2
          have c0 := hc 0 _ rfl
          rw [← HB1'.out.cell (p := ⟨b, off + (k * EI.sz + 0), none⟩) hB2] at c0
          rw [show EI.sz = 1 from rfl, Nat.mul_one, Nat.add_zero] at c0
          have c1 := HTK.out.c1
          have hl := HTK.out.ma.look1 y.1
          rw [Ty.get_mem H.out.ma.inc (List.mem_of_getElem? hyk)] at hl
          obtain ⟨tp, htp⟩ : ∃ tp, Ty.top x (L.take k) = tp := ⟨_, rfl⟩
          rw [htp] at HX1
          have HTP : Hid (Ty.top x (L.take (k + 1)) = Ty.pick tp y) := by
            show _ = _
            rw [Ty.take_at hyk, Ty.top_snoc, htp]
          have hlt' : (k : Int) < (n : Int) := by omega
          obtain ⟨⟨d0, d1, d2⟩, -⟩ := bid_of HX1.out
          have e0 := fun o => (cell_older hBl o 0).trans d0
          have e1 := fun o => (cell_older hBl o 1).trans d1
          have e2 := fun o => (cell_older hBl o 2).trans d2
          have HXA : Hid ((wr.alloc (BB y)).heap[B]? = some (BB tp)) := (Below.heap_alloc _ _ _ hBl).trans HX1.out
          have HYA : Hid ((wr.alloc (BB y)).heap[wr.heap.size]? = some (BB y)) := heap_alloc_new _ _
          have HBA : Hid (Below B w1 (wr.alloc (BB y))) := HBK.out.alloc (Nat.le_of_lt hBl) _
          clear hc hyk htp d0 d1 d2 hB2
          go_wp2_with fail
          refine (tbetter_any _ _ _).mono ?_
          rintro e w5 ⟨rfl, hg5⟩
          have HX5 : Hid (w5.heap[B]? = some (BB tp)) := (hg5.block B (Array.getElem?_eq_some_iff.1 HXA.out).1 (by simp)).trans HXA.out
          obtain ⟨⟨z0, z1, z2⟩, -⟩ := bid_of ((hg5.block _ (Array.getElem?_eq_some_iff.1 HYA.out).1 (by simp)).trans HYA.out)
          have HB5 : Hid (Below B w1 w5) := HBA.out.trans ((below_none hg5 (Nat.le_refl _)).mono (by have := HBA.out.size; rw [HBB.out] at this; exact this))
          obtain ⟨⟨t0, t1, t2⟩, hf5⟩ := bid_of HX5.out
          clear hg5 c0 c1 hl e0 e1 e2
          cases hbt : Ty.bet y tp with
          | true =>
            have HP : Hid (Ty.pick tp y = y) := by show Ty.pick tp y = y; unfold Ty.pick; rw [if_pos hbt]
            go_wp2
            go_roundw
            case rel => exact ⟨k + 1, by omega, by go_num, by rw [HTP.out, HP.out]; exact set_bid HX5.out, Below.setCell (Below.setCell (Below.setCell HB5.out (Nat.le_refl _) _) (Nat.le_refl _) _) (Nat.le_refl _) _⟩
            case measure => simp [intOf]; omega
          | false =>
            have HP : Hid (Ty.pick tp y = tp) := by show Ty.pick tp y = tp; unfold Ty.pick; rw [if_neg (by simp [hbt])]
            go_wp2
            go_roundw
            case rel => exact ⟨k + 1, by omega, by go_num, by rw [HTP.out, HP.out]; exact HX5.out, HB5.out⟩
            case measure => simp [intOf]; omega
        · obtain rfl : k = n := by omega
          obtain ⟨tp, htp⟩ : ∃ tp, Ty.top x (L.take k) = tp := ⟨_, rfl⟩
          rw [htp] at HX1
          have HE : Hid (Ty.best L = tp ∧ Ty.bestE L = 0) := ⟨by rw [HBEST.out.1, ← htp, ← HN.out, List.take_length], HBEST.out.2⟩
          have HRR : Hid (wr.heap[R]? = some (BB (0, 0, 0))) := (HB1'.out.block R (by rw [HBB.out]; exact hRB)).trans HR1.out
          obtain ⟨⟨d0, d1, d2⟩, -⟩ := bid_of HX1.out
          obtain ⟨⟨z0, z1, z2⟩, hfz⟩ := bid_of HRR.out
          have HEND : Hid (Below w.heap.size w wr) := HB1.out.trans (HB1'.out.mono HB1.out.size)
          clear htp
          go_wp2
          (try simp only [Exit.inBlock, Exit.then])
          refine bodyPost_ret (v := .tuple #[VB tp, .int .i64 0]) ?_ rfl ⟨by rw [HE.out.1, HE.out.2], ?_⟩
          · rw [results_cell_tmp rfl]
            go_simp
          · repeat (with_reducible refine Below.setCell ?_ (by rw [HR.out]; exact Nat.le_refl _) _)
            exact HEND.out
end Go.Proofs.Ytdcknokggjbebaa
