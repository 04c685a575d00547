/-
  The document's answer: sextonref12.Close.
-/
import Derived.Test.YtlikcijoejgkkaaRefLC
namespace Go.Proofs.Ytlikcijoejgkkaa
open Go.ChangeShapes Go.WideShapes Go.ChangeAt Go.RowKit Go.Deep
theorem set_hand {w : World} {A : Nat} {a b c d : Int} (h : w.heap[A]? = some (BH a b)) : ((w.setCell ⟨A, 0, none⟩ (.int .i64 c)).setCell ⟨A, 1, none⟩ (.int .i64 d)).heap[A]? = some (BH c d) := by
  have h1 : (w.setCell ⟨A, 0, none⟩ (.int .i64 c)).heap[A]? = some (BH c b) := by
    rw [setCell_eq_setRow w A 0 _ _ _ _ h, setRow_heap w A _ _ _ _ h]
    rfl
  rw [setCell_eq_setRow _ A 1 _ _ _ _ h1, setRow_heap _ A _ _ _ _ h1]
  rfl
theorem grown_set (w : World) (A j : Nat) (v : Value) : w.grownBy (w.setCell ⟨A, j, none⟩ v) (some A) := ⟨rfl, rfl, rfl, by simp [World.setCell], fun k _ hk => Below.heap_setCell _ _ _ _ (fun e => hk (by rw [e]))⟩
theorem below_drew {B : Nat} {w w' : World} (h : Below B w w') : Below B w w'.drew := ⟨h.os, h.tape, h.output, h.size, h.block⟩
theorem two_set {X : Nat} {a b : Value} {w : World} (h : w.cell? ⟨X, 0, none⟩ = some a ∧ w.cell? ⟨X, 1, none⟩ = some b) {p : Addr} (hX : X ≠ p.block) (u : Value) : (w.setCell p u).cell? ⟨X, 0, none⟩ = some a ∧ (w.setCell p u).cell? ⟨X, 1, none⟩ = some b :=
  ⟨(cell_block (Below.heap_setCell _ _ _ _ hX)).trans h.1, (cell_block (Below.heap_setCell _ _ _ _ hX)).trans h.2⟩
namespace Op
def rest (l : List Opn) (c fd : Int) (k : Nat) : List Opn := (l.take k).filter fun x => !(mine c fd x)
def fnd (l : List Opn) (c fd : Int) (k : Nat) : Option Opn := (l.take k).find? (mine c fd)
theorem rest_in {l : List Opn} {c fd : Int} {k : Nat} {x : Opn} (h : l[k]? = some x) (hx : mine c fd x = false) : rest l c fd (k + 1) = rest l c fd k ++ [x] ∧ fnd l c fd (k + 1) = fnd l c fd k := by
  unfold rest fnd
  rw [take_at h, List.filter_append, List.find?_append]
  simp [hx]
theorem rest_out {l : List Opn} (hr : right 0 l = true) {c fd : Int} {k : Nat} {x : Opn} (h : l[k]? = some x) (hx : mine c fd x = true) : rest l c fd (k + 1) = rest l c fd k ∧ fnd l c fd (k + 1) = some x := by
  unfold rest fnd
  rw [take_at h, List.filter_append, List.find?_append]
  refine ⟨by simp [hx], ?_⟩
  cases hf : (l.take k).find? (mine c fd) with
  | none => simp [hx]
  | some y =>
    have := mine_one hr (List.mem_of_mem_take (List.mem_of_find?_eq_some hf)) (List.mem_of_getElem? h) (List.find?_some hf) hx
    simp [this]
theorem rest_len (l : List Opn) (c fd : Int) (k : Nat) : (rest l c fd k).length ≤ k := filter_len l _ k
/-- What was found so far. -/
def seen (o : Option Opn) : Int × Int := match o with | some x => x.2.2 | none => (0, 0)
end Op
set_option maxHeartbeats 4000000 in
theorem rclose_any (v : Value) (l : List Opn) (c fd : Int) (w : World) (hv : AtW EO w v l) :
    Calls Try.prog 21 #[v, .int .i64 c, .int .i64 fd] w fun e w' => ∃ p n q, e = .returned (.tuple #[.slice p n q, VH (Op.closeOf l c fd).1 (Op.closeOf l c fd).2, .int .i64 (Op.closeErr l c fd)]) ∧ At EO (fun b => w.heap.size ≤ b) w' (.slice p n q) (Op.closed l c fd) ∧ Below w.heap.size w w' := by
  have hv0 := hv
  obtain ⟨ao, cap, rfl, hm, hx⟩ := hv0.open
  clear hv0
  unfold maxLen at hm
  obtain ⟨n, hlm⟩ : ∃ m, l.length = m := ⟨_, rfl⟩
  rw [hlm] at hm hv ⊢
  have HN : Hid (l.length = n) := hlm
  have HX0 : Hid (Over w ao l) := hx
  clear hlm hx
  obtain ⟨W, hW⟩ : ∃ W, W = w.alloc (BH 0 0) := ⟨_, rfl⟩
  have HB0 : Hid (Below w.heap.size w W) := by show Below w.heap.size w W; rw [hW]; exact (Below.refl _ w).alloc (Nat.le_refl _) _
  have HA0 : Hid (W.heap[w.heap.size]? = some (BH 0 0)) := by show W.heap[w.heap.size]? = some (BH 0 0); rw [hW]; exact heap_alloc_new w (BH 0 0)
  have HV : Hid (AtW EO W (.slice ao n cap) l) := hv.up HB0.out
  clear hv
  by_cases ha : Op.ask l c = 0
  · have HRT : Hid (Op.right 0 l = true) := by
      rcases Op.ask_or l c with ⟨_, hr, _⟩ | ⟨h, _⟩ | ⟨h, _⟩
      · exact hr
      · omega
      · omega
    have hn16 : n ≤ 16 := by have := Op.right_len HRT.out; have := HN.out; omega
    have HA : Hid (Op.ask l c = 0) := ha
    have HE : Hid (Op.closeErr l c fd = (match l.find? (Op.mine c fd) with | some _ => 0 | none => 411)) := if_pos ha
    have HO : Hid (Op.closeOf l c fd = (match l.find? (Op.mine c fd) with | some x => x.2.2 | none => (0, 0))) := if_pos ha
    have HC : Hid (Op.closed l c fd = (match l.find? (Op.mine c fd) with | some x => Op.without l [x] | none => [])) := if_pos ha
    obtain ⟨ce, hce⟩ : ∃ ce, Op.closeErr l c fd = ce := ⟨_, rfl⟩
    obtain ⟨o1, ho1⟩ : ∃ o1, (Op.closeOf l c fd).1 = o1 := ⟨_, rfl⟩
    obtain ⟨o2, ho2⟩ : ∃ o2, (Op.closeOf l c fd).2 = o2 := ⟨_, rfl⟩
    rw [hce, ho1, ho2]
    have HCE : Hid (Op.closeErr l c fd = ce ∧ (Op.closeOf l c fd).1 = o1 ∧ (Op.closeOf l c fd).2 = o2) := ⟨hce, ho1, ho2⟩
    obtain ⟨i0, hi, hz0, hz1, hz2⟩ := info_parts infoO
    clear ha hce ho1 ho2
    go_enter Try.func21, Try.ntmps21
    go_wp2_with fail
    rw [← hW]
    refine (asked_any _ l c _ HV.out).mono ?_
    rintro e w1 ⟨rfl, hb⟩
    rw [HA.out]
    have HB1 : Hid (Below w.heap.size w w1) := HB0.out.trans (hb.mono HB0.out.size)
    have HA1 : Hid (w1.heap[w.heap.size]? = some (BH 0 0)) := (hb.block _ (Array.getElem?_eq_some_iff.1 HA0.out).1).trans HA0.out
    have hws : w.heap.size < w1.heap.size := (Array.getElem?_eq_some_iff.1 HA1.out).1
    clear hb hW
    go_wp2
    go_loopw [10, 12, 25] (fun u t i wr => ∃ (k : Nat) (pp : Option Addr) (jj q : Nat) (fb : Bool) (a b : Int), k ≤ n ∧ i = .int .i64 k ∧ u = .slice pp jj q ∧ t = .bool fb ∧ Hid (wr.heap[w1.heap.size]? = some (BH a b)) ∧ Hid (fb = (Op.fnd l c fd k).isSome ∧ (a, b) = Op.seen (Op.fnd l c fd k)) ∧ Hid (Row EO wr w1.heap.size 27 (.slice pp jj q) (Op.rest l c fd k)) ∧ Hid (Below w1.heap.size w1 wr)) (fun _ _ i _ => n - (intOf i).toNat)
    case atStart => exact ⟨0, none, 0, 0, false, 0, 0, Nat.zero_le _, rfl, rfl, rfl, heap_alloc_new w1 (BH 0 0), ⟨rfl, rfl⟩, Row.nil _ _ _ _, (Below.refl _ _).alloc (Nat.le_refl _) _⟩
    case round =>
      obtain ⟨k, pp, jj, q, fb, a, b, hk, rfl, rfl, rfl, HAR, HF, HR, HB⟩ := hrel
      have hsz := HB.out.size
      have HB3 : Hid (Below w.heap.size w wr) := HB1.out.trans (HB.out.mono HB1.out.size)
      have HRES : Hid (wr.heap[w.heap.size]? = some (BH 0 0)) := (HB.out.block _ hws).trans HA1.out
      have hlr : w1.heap.size < wr.heap.size := (Array.getElem?_eq_some_iff.1 HAR.out).1
      by_cases hlt : k < n
      · obtain ⟨x, hxk⟩ : ∃ x, l[k]? = some x := ⟨_, List.getElem?_eq_getElem (by rw [HN.out]; exact hlt)⟩
        have HXK : Hid (l[k]? = some x) := hxk
        obtain ⟨bb, off, rfl, -, hB, hc⟩ := HX0.out k x hxk
        obtain ⟨c0, c1, c2, c3⟩ := opn_cells HB3.out hB hc
        clear hc hxk
        have hlt' : (k : Int) < (n : Int) := by omega
        have HBX : Hid (Below w1.heap.size w1 (wr.alloc (BO x))) := HB.out.alloc hsz _
        have HAX : Hid ((wr.alloc (BO x)).heap[w1.heap.size]? = some (BH a b)) := (Below.heap_alloc _ _ _ hlr).trans HAR.out
        have HRX : Hid (Row EO (wr.alloc (BO x)) w1.heap.size 27 (.slice pp jj q) (Op.rest l c fd k)) := HR.out.up ((Below.refl _ _).alloc (Nat.le_refl _) _)
        have HXX : Hid ((wr.alloc (BO x)).heap[wr.heap.size]? = some (BO x)) := heap_alloc_new wr (BO x)
        have HNOT : Hid (Op.mine c fd x = false → Op.rest l c fd (k + 1) = Op.rest l c fd k ++ [x] ∧ Op.fnd l c fd (k + 1) = Op.fnd l c fd k) := Op.rest_in HXK.out
        have HYES : Hid (Op.mine c fd x = true → Op.rest l c fd (k + 1) = Op.rest l c fd k ∧ Op.fnd l c fd (k + 1) = some x) := Op.rest_out HRT.out HXK.out
        have HAPP : Hid (Op.mine c fd x = false → Row EO ((wr.alloc (BO x)).alloc (BO x)) w1.heap.size 27 (.slice pp jj q) (Op.rest l c fd k) ∧ ((wr.alloc (BO x)).alloc (BO x)).heap[w1.heap.size]? = some (BH a b) ∧ Below w1.heap.size w1 ((wr.alloc (BO x)).alloc (BO x))) := fun _ => ⟨HRX.out.up ((Below.refl _ _).alloc (Nat.le_refl _) _), (Below.heap_alloc _ _ _ (by simp; omega)).trans HAX.out, HBX.out.alloc (by simp; omega) _⟩
        have HO2 : Hid (AtW EO ((wr.alloc (BO x)).alloc (BO x)) (.slice (some ⟨wr.heap.size + 1, 0, none⟩) 1 1) [x]) := at_two wr x
        have HLEN : Hid ((Op.rest l c fd k).length ≤ k) := Op.rest_len l c fd k
        by_cases g : x.1 = fd
        · have g1 : (x.1 == fd) = true := by simp [g]
          by_cases g2 : x.2.1 = c
          · have g3 : (x.2.1 == c) = true := by simp [g2]
            have HG : Hid (Op.rest l c fd (k + 1) = Op.rest l c fd k ∧ Op.fnd l c fd (k + 1) = some x) := HYES.out (by simp [Op.mine, g, g2])
            obtain ⟨⟨y0, y1, y2, y3⟩, -⟩ := opn_of HXX.out
            obtain ⟨z0, z1⟩ := hand_of HAR.out
            have zf := hand_froz HAR.out
            have hne : ¬ w1.heap.size = wr.heap.size := by omega
            have HEND : Hid ((((wr.setCell ⟨w1.heap.size, 0, none⟩ (.int .i64 x.2.2.1)).setCell ⟨w1.heap.size, 1, none⟩ (.int .i64 x.2.2.2)).alloc (BO x)).heap[w1.heap.size]? = some (BH x.2.2.1 x.2.2.2)) := (Below.heap_alloc _ _ _ (by simp [World.setCell]; omega)).trans (set_hand HAR.out)
            have HEND2 : Hid (Row EO (((wr.setCell ⟨w1.heap.size, 0, none⟩ (.int .i64 x.2.2.1)).setCell ⟨w1.heap.size, 1, none⟩ (.int .i64 x.2.2.2)).alloc (BO x)) w1.heap.size 27 (.slice pp jj q) (Op.rest l c fd k)) := by
              have h0 := HR.out.off HAR.out (by decide)
              exact ((HR.out.kept (grown_set _ _ _ _) h0).kept (grown_set _ _ _ _) h0).up ((Below.refl _ _).alloc (Nat.le_refl _) _)
            have HEND3 : Hid (Below w1.heap.size w1 (((wr.setCell ⟨w1.heap.size, 0, none⟩ (.int .i64 x.2.2.1)).setCell ⟨w1.heap.size, 1, none⟩ (.int .i64 x.2.2.2)).alloc (BO x))) := (Below.setCell (Below.setCell HB.out (by simp) _) (by simp) _).alloc (by simp [World.setCell]; omega) _
            clear g g2
            go_wp2
            go_roundw
            case rel => exact ⟨k + 1, pp, jj, q, true, x.2.2.1, x.2.2.2, by omega, by go_num, rfl, rfl, HEND, ⟨by rw [HG.out.2]; rfl, by rw [HG.out.2]; rfl⟩, by rw [HG.out.1]; exact HEND2, HEND3⟩
            case measure => simp [intOf]; omega
          · have g3 : (x.2.1 == c) = false := beq_eq_false_iff_ne.2 g2
            have HM : Hid (Op.mine c fd x = false) := by show Op.mine c fd x = false; simp [Op.mine, g2]
            have HG : Hid (Op.rest l c fd (k + 1) = Op.rest l c fd k ++ [x] ∧ Op.fnd l c fd (k + 1) = Op.fnd l c fd k) := HNOT.out HM.out
            clear g g2
            go_wp2_with (at_builtin; refine wpList_row _ rfl _ _ 22 rfl EO (fun _ => True) w1.heap.size 27 i0 _ 32 Try.underlying22 hi hz0 hz1 hz2 rfl _ (Op.rest l c fd k) rfl (HAPP.out HM.out).1 _ [x] rfl HO2.out (by have := HLEN.out; unfold maxLen; simp only [List.length_cons, List.length_nil]; omega) (by have := HLEN.out; simp only [List.length_cons, List.length_nil]; omega) (by simp; omega) ?_; intro v7 w7 hrow7 hg7 hloc7)
            have HEND : Hid (Row EO w7 w1.heap.size 27 v7 (Op.rest l c fd (k + 1)) ∧ w7.heap[w1.heap.size]? = some (BH a b) ∧ Below w1.heap.size w1 w7) := by
              have h0 := HAPP.out HM.out
              refine ⟨by rw [HG.out.1]; exact hrow7, ?_, h0.2.2.grown hg7 (by simp; omega) (fun k hk => (h0.1.lt k hk).1)⟩
              have hg8 : World.grownBy _ w7 (Value.slice pp jj q).ownBlock := hg7
              refine (hg8.block _ (by simp; omega) (fun e => ?_)).trans h0.2.1
              rcases h0.1.off h0.2.1 (by decide) with h | h
              · rw [h] at e
                cases e
              · exact h e.symm
            clear hrow7 hg7 hloc7
            obtain ⟨p7, n7, c7, rfl⟩ := HEND.out.1.slice3
            go_wp2
            go_roundw
            case rel => exact ⟨k + 1, p7, n7, c7, fb, a, b, by omega, by go_num, rfl, rfl, HEND.out.2.1, by rw [HG.out.2]; exact HF, HEND.out.1, HEND.out.2.2⟩
            case measure => simp [intOf]; omega
        · have g1 : (x.1 == fd) = false := beq_eq_false_iff_ne.2 g
          have HM : Hid (Op.mine c fd x = false) := by show Op.mine c fd x = false; simp [Op.mine, g]
          have HG : Hid (Op.rest l c fd (k + 1) = Op.rest l c fd k ++ [x] ∧ Op.fnd l c fd (k + 1) = Op.fnd l c fd k) := HNOT.out HM.out
          clear g
          go_wp2_with (at_builtin; refine wpList_row _ rfl _ _ 22 rfl EO (fun _ => True) w1.heap.size 27 i0 _ 32 Try.underlying22 hi hz0 hz1 hz2 rfl _ (Op.rest l c fd k) rfl (HAPP.out HM.out).1 _ [x] rfl HO2.out (by have := HLEN.out; unfold maxLen; simp only [List.length_cons, List.length_nil]; omega) (by have := HLEN.out; simp only [List.length_cons, List.length_nil]; omega) (by simp; omega) ?_; intro v7 w7 hrow7 hg7 hloc7)
          have HEND : Hid (Row EO w7 w1.heap.size 27 v7 (Op.rest l c fd (k + 1)) ∧ w7.heap[w1.heap.size]? = some (BH a b) ∧ Below w1.heap.size w1 w7) := by
            have h0 := HAPP.out HM.out
            refine ⟨by rw [HG.out.1]; exact hrow7, ?_, h0.2.2.grown hg7 (by simp; omega) (fun k hk => (h0.1.lt k hk).1)⟩
            have hg8 : World.grownBy _ w7 (Value.slice pp jj q).ownBlock := hg7
            refine (hg8.block _ (by simp; omega) (fun e => ?_)).trans h0.2.1
            rcases h0.1.off h0.2.1 (by decide) with h | h
            · rw [h] at e
              cases e
            · exact h e.symm
          clear hrow7 hg7 hloc7
          obtain ⟨p7, n7, c7, rfl⟩ := HEND.out.1.slice3
          go_wp2
          go_roundw
          case rel => exact ⟨k + 1, p7, n7, c7, fb, a, b, by omega, by go_num, rfl, rfl, HEND.out.2.1, by rw [HG.out.2]; exact HF, HEND.out.1, HEND.out.2.2⟩
          case measure => simp [intOf]; omega
      · obtain rfl : k = n := by omega
        have HFND : Hid (Op.fnd l c fd k = l.find? (Op.mine c fd)) := by
          show (l.take k).find? (Op.mine c fd) = _
          rw [← HN.out, List.take_length]
        have HREST : Hid (Op.rest l c fd k = l.filter fun x => !(Op.mine c fd x)) := by
          show (l.take k).filter _ = _
          rw [← HN.out, List.take_length]
        obtain ⟨z0, z1⟩ := hand_of HAR.out
        obtain ⟨r0, r1⟩ := hand_of HRES.out
        have rf := hand_froz HRES.out
        cases hf : l.find? (Op.mine c fd) with
        | none =>
          have HEE : Hid (ce = 411 ∧ o1 = 0 ∧ o2 = 0 ∧ Op.closed l c fd = [] ∧ fb = false) := by
            have e1 := HE.out
            have e2 := HO.out
            have e3 := HC.out
            have e4 := HCE.out
            have e5 := HF.out.1
            rw [HFND.out] at e5
            rw [hf] at e1 e2 e3 e5
            simp only at e1 e2 e3
            rw [e1, e2] at e4
            exact ⟨e4.1.symm, e4.2.1.symm, e4.2.2.symm, e3, e5⟩
          have hfb : fb = false := HEE.out.2.2.2.2
          subst hfb
          clear hf
          go_wp2
          (try simp only [Exit.inBlock, Exit.then])
          refine bodyPost_ret (v := .tuple #[.slice none 0 0, VH 0 0, .int .i64 411]) ?_ rfl ⟨none, 0, 0, by rw [HEE.out.1, HEE.out.2.1, HEE.out.2.2.1], by rw [HEE.out.2.2.2.1]; exact At.nil, ?_⟩
          · rw [results_tct rfl]
            go_simp
          · repeat (refine Below.setCell ?_ (by simp) _)
            exact HB3.out
        | some x =>
          have HEE : Hid (ce = 0 ∧ o1 = a ∧ o2 = b ∧ Op.closed l c fd = Op.rest l c fd k ∧ fb = true) := by
            have e1 := HE.out
            have e2 := HO.out
            have e3 := HC.out
            have e4 := HCE.out
            have e5 := HF.out
            rw [HFND.out] at e5
            rw [hf] at e1 e2 e3 e5
            simp only at e1 e2 e3
            rw [e1, e2] at e4
            have e6 := e5.2
            simp only [Op.seen] at e6
            rw [← e6] at e4
            exact ⟨e4.1.symm, e4.2.1.symm, e4.2.2.symm, by rw [e3, HREST.out]; exact Op.without_one HRT.out hf, e5.1⟩
          have hfb : fb = true := HEE.out.2.2.2.2
          subst hfb
          have hne : ¬ w.heap.size = w1.heap.size := by omega
          have HSS : Hid (wr.cell? ⟨w1.heap.size, 0, none⟩ = some (.int .i64 a) ∧ wr.cell? ⟨w1.heap.size, 1, none⟩ = some (.int .i64 b)) := ⟨z0, z1⟩
          have hne1 : w1.heap.size ≠ w.heap.size := by omega
          have HEND : Hid (At EO (fun b => w1.heap.size ≤ b) wr (.slice pp jj q) (Op.closed l c fd)) := by
            have h := HR.out.at
            rw [← HEE.out.2.2.2.1] at h
            exact h
          clear hf
          go_wp2_with fail
          go_region_held3 (fun w' => w'.cell? ⟨w1.heap.size, 0, none⟩ = some (.int .i64 a) ∧ w'.cell? ⟨w1.heap.size, 1, none⟩ = some (.int .i64 b)) (first | exact HSS.out | exact two_set HSS.out hne1 _ | exact two_set (two_set HSS.out hne1 _) hne1 _) (fail)
          go_wp2
          (try simp only [Exit.inBlock, Exit.then])
          refine bodyPost_ret (v := .tuple #[.slice pp jj q, VH a b, .int .i64 0]) ?_ rfl ⟨pp, jj, q, by rw [HEE.out.1, HEE.out.2.1, HEE.out.2.2.1], ?_, ?_⟩
          · rw [results_tct rfl]
            go_simp
          · refine At.imp (S := fun b => w1.heap.size ≤ b) ?_ (fun b hb _ => by omega)
            repeat (refine At.setCell ?_ (by simp; omega) _)
            exact HEND.out
          · refine below_drew ?_
            repeat (refine Below.setCell ?_ (by simp) _)
            exact HB3.out
  · have HE : Hid (Op.closeErr l c fd = Op.ask l c) := if_neg ha
    have HO : Hid (Op.closeOf l c fd = (0, 0)) := if_neg ha
    have HC : Hid (Op.closed l c fd = []) := if_neg ha
    rw [HE.out, HO.out]
    obtain ⟨a, haa⟩ : ∃ a, Op.ask l c = a := ⟨_, rfl⟩
    have HA : Hid (Op.ask l c = a) := haa
    rw [haa] at ha ⊢
    have hne : (a == 0) = false := beq_eq_false_iff_ne.2 ha
    clear ha haa
    go_enter Try.func21, Try.ntmps21
    go_wp2_with fail
    rw [← hW]
    refine (asked_any _ l c _ HV.out).mono ?_
    rintro e w1 ⟨rfl, hb⟩
    rw [HA.out]
    have HB1 : Hid (Below w.heap.size w w1) := HB0.out.trans (hb.mono HB0.out.size)
    have HA1 : Hid (w1.heap[w.heap.size]? = some (BH 0 0)) := (hb.block _ (Array.getElem?_eq_some_iff.1 HA0.out).1).trans HA0.out
    obtain ⟨z0, z1⟩ := hand_of HA1.out
    have zf := hand_froz HA1.out
    clear hb hW
    go_wp2
    (try simp only [Exit.inBlock, Exit.then])
    refine bodyPost_ret (v := .tuple #[.slice none 0 0, VH 0 0, .int .i64 a]) ?_ rfl ⟨none, 0, 0, rfl, by rw [HC.out]; exact At.nil, ?_⟩
    · rw [results_tct rfl]
      go_simp
    · repeat (refine Below.setCell ?_ (by simp) _)
      exact HB1.out
end Go.Proofs.Ytlikcijoejgkkaa
