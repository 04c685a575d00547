/-
  opens.Of, opens.Leave: what they answer.
-/
import Derived.Test.YtlikcijoejgkkaaClosing
namespace Go.Proofs.Ytlikcijoejgkkaa
open Go.ChangeShapes Go.WideShapes Go.ChangeAt Go.RowKit Go.Deep
def EH : Enc (Int × Int) := ⟨2, fun x => [.int .i64 x.1, .int .i64 x.2], fun _ => rfl, fun x u hu => by
  simp at hu
  rcases hu with rfl | rfl <;> rfl⟩
def EI : Enc Int := ⟨1, fun x => [.int .i64 x], fun _ => rfl, fun x u hu => by
  simp at hu
  subst hu
  rfl⟩
theorem infoH : (Try.prog.info? 24).map (fun i => (i.zero, i.size, i.bytes)) = some (some (.agg #[.int .i64 0, .int .i64 0]), 2, 16) := by kernel_rfl
theorem infoN : (Try.prog.info? 3).map (fun i => (i.zero, i.size, i.bytes)) = some (some (.int .i64 0), 1, 8) := by kernel_rfl
theorem at_oneH {w : World} {B : Nat} {no gen : Int} (h : w.heap[B]? = some (BH no gen)) : AtW EH w (.slice (some ⟨B, 0, none⟩) 1 1) [(no, gen)] := by
  refine .inr ⟨B, 0, 1, rfl, trivial, (Array.getElem?_eq_some_iff.1 h).1, by simp, by simp, by decide, fun j u hj => ?_⟩
  simp only [World.cell?, h, Nat.zero_add]
  simpa [Enc.flat, EH] using hj
theorem at_oneI {w : World} {B : Nat} {x : Int} (h : w.heap[B]? = some (.cells #[.int .i64 x] 3)) : AtW EI w (.slice (some ⟨B, 0, none⟩) 1 1) [x] := by
  refine .inr ⟨B, 0, 1, rfl, trivial, (Array.getElem?_eq_some_iff.1 h).1, by simp, by simp, by decide, fun j u hj => ?_⟩
  simp only [World.cell?, h, Nat.zero_add]
  simpa [Enc.flat, EI] using hj
namespace Op
def fdOf (x : Opn) : Int := x.1
def hOf (x : Opn) : Int × Int := x.2.2
theorem map_in {α : Type} {l : List Opn} {f : Opn → α} {k : Nat} {x : Opn} (h : l[k]? = some x) : (l.take (k + 1)).map f = (l.take k).map f ++ [f x] := by
  rw [take_at h, List.map_append]
  rfl
theorem map_len {α : Type} (l : List Opn) (f : Opn → α) (k : Nat) : ((l.take k).map f).length ≤ k := by simp; omega
end Op
set_option maxHeartbeats 2000000 in
theorem of_any (v : Value) (l : List Opn) (c : Int) (w : World) (hv : AtW EO w v l) (hl : l.length ≤ 4398046511104) :
    Calls Try.prog 12 #[v, .int .i64 c] w fun e w' => ∃ p n q, e = .returned (.slice p n q) ∧ At EI (fun b => w.heap.size ≤ b) w' (.slice p n q) ((Op.owned l c).map Op.fdOf) ∧ Below w.heap.size w w' := by
  have HV : Hid (AtW EO w v l) := hv
  have HL : Hid (l.length ≤ 4398046511104) := hl
  clear hv hl
  go_enter Try.func12, Try.ntmps12
  go_wp2_with fail
  refine (owned_any _ l c _ HV.out HL.out).mono ?_
  rintro e w2 ⟨p2, n2, q2, rfl, h2, hb⟩
  have HB2 : Hid (Below w.heap.size w w2) := hb
  obtain ⟨g, hg⟩ : ∃ g, Op.owned l c = g := ⟨_, rfl⟩
  have HG : Hid (Op.owned l c = g) := hg
  rw [hg] at h2
  obtain ⟨ao2, cap2, hve, -, hx2⟩ := h2.wide.open
  simp only [Value.slice.injEq] at hve
  obtain ⟨rfl, rfl, rfl⟩ := hve
  obtain ⟨n, hn⟩ : ∃ n, g.length = n := ⟨_, rfl⟩
  rw [hn]
  have HN : Hid (g.length = n) := hn
  have HX : Hid (Over w2 p2 g) := hx2
  have hn16 : n ≤ 4398046511104 := by have h1 := Op.owned_len l c; have := HL.out; rw [hg, hn] at h1; omega
  obtain ⟨j0, hj, hy0, hy1, hy2⟩ := info_parts infoN
  have hsw := hb.size
  clear hb h2 hx2 hg hn
  go_wp2
  go_loopw [5, 12] (fun u i wr => ∃ (k : Nat) (pp : Option Addr) (jj q : Nat), k ≤ n ∧ i = .int .i64 k ∧ u = .slice pp jj q ∧ Hid (Row EI wr w.heap.size 3 (.slice pp jj q) ((g.take k).map Op.fdOf)) ∧ Hid (Row EI wr w2.heap.size 3 (.slice pp jj q) ((g.take k).map Op.fdOf)) ∧ Hid (Below w2.heap.size w2 wr)) (fun _ i _ => n - (intOf i).toNat)
  case atStart => exact ⟨0, none, 0, 0, Nat.zero_le _, rfl, rfl, by rw [List.take_zero]; exact Row.nil _ _ _ _, by rw [List.take_zero]; exact Row.nil _ _ _ _, Below.refl _ _⟩
  case round =>
    obtain ⟨k, pp, jj, q, hk, rfl, rfl, HR, HRR, HB⟩ := hrel
    have HB3 : Hid (Below w.heap.size w wr) := HB2.out.trans (HB.out.mono HB2.out.size)
    have hsz := HB.out.size
    by_cases hlt : k < n
    · obtain ⟨x, hxk⟩ : ∃ x, g[k]? = some x := ⟨_, List.getElem?_eq_getElem (by rw [HN.out]; exact hlt)⟩
      have HXK : Hid (g[k]? = some x) := hxk
      obtain ⟨b, off, rfl, -, hB, hc⟩ := HX.out k x hxk
      obtain ⟨c0, c1, c2, c3⟩ := opn_cells HB.out hB hc
      clear hc hxk
      have hlt' : (k : Int) < (n : Int) := by omega
      have HLEN : Hid (((g.take k).map Op.fdOf).length ≤ k) := Op.map_len g _ k
      have HG2 : Hid ((g.take (k + 1)).map Op.fdOf = (g.take k).map Op.fdOf ++ [x.1]) := Op.map_in HXK.out
      have HR3 : Hid (Row EI ((wr.alloc (BO x)).alloc (.cells #[.int .i64 x.1] 3)) w2.heap.size 3 (.slice pp jj q) ((g.take k).map Op.fdOf)) := (HRR.out.up ((Below.refl _ _).alloc (Nat.le_refl _) _)).up ((Below.refl _ _).alloc (Nat.le_refl _) _)
      have HB4 : Hid (Below w2.heap.size w2 ((wr.alloc (BO x)).alloc (.cells #[.int .i64 x.1] 3))) := (HB.out.alloc hsz _).alloc (by simp; omega) _
      have HO : Hid (AtW EI ((wr.alloc (BO x)).alloc (.cells #[.int .i64 x.1] 3)) (.slice (some ⟨wr.heap.size + 1, 0, none⟩) 1 1) [x.1]) := by
        have h2 := heap_alloc_new (wr.alloc (BO x)) (.cells #[.int .i64 x.1] 3)
        rw [show (wr.alloc (BO x)).heap.size = wr.heap.size + 1 by simp] at h2
        exact at_oneI h2
      go_wp2_with (at_builtin; refine wpList_row _ rfl _ _ 25 rfl EI (fun _ => True) w2.heap.size 3 j0 _ 8 Try.underlying25 hj hy0 hy1 hy2 rfl _ ((g.take k).map Op.fdOf) rfl HR3.out _ [x.1] rfl HO.out (by have := HLEN.out; unfold maxLen; simp only [List.length_cons, List.length_nil]; omega) (by have := HLEN.out; simp only [List.length_cons, List.length_nil]; omega) (by simp; omega) ?_; intro v7 w7 hrow7 hg7 hloc7)
      have HEND : Hid (Row EI w7 w2.heap.size 3 v7 ((g.take (k + 1)).map Op.fdOf) ∧ Below w2.heap.size w2 w7) := ⟨by rw [HG2.out]; exact hrow7, HB4.out.grown hg7 (by simp; omega) (fun k hk => (HR3.out.lt k hk).1)⟩
      clear hrow7 hg7 hloc7
      obtain ⟨p7, n7, c7, rfl⟩ := HEND.out.1.slice3
      go_wp2
      go_roundw
      case rel => exact ⟨k + 1, p7, n7, c7, by omega, by go_num, rfl, (by
        rcases HEND.out.1 with h | ⟨gg, cap, cur, h1, h2, h3⟩
        · exact .inl h
        · exact .inr ⟨gg, cap, cur, h1, by omega, h3⟩), HEND.out.1, HEND.out.2⟩
      case measure => simp [intOf]; omega
    · obtain rfl : k = n := by omega
      have HEND : Hid (At EI (fun b => w.heap.size ≤ b) wr (.slice pp jj q) ((Op.owned l c).map Op.fdOf)) := by
        have := HR.out.at
        rw [← HN.out, List.take_length, ← HG.out] at this
        exact this
      go_wp2
      go_ret
      exact ⟨_, _, _, rfl, HEND.out, HB3.out⟩
set_option maxHeartbeats 2000000 in
theorem leave_any (v : Value) (l : List Opn) (c : Int) (w : World) (hv : AtW EO w v l) :
    Calls Try.prog 16 #[v, .int .i64 c] w fun e w' => ∃ p n q p' n' q', e = .returned (.tuple #[.slice p n q, .slice p' n' q', .int .i64 (Op.ask l c)]) ∧ At EO (fun b => w.heap.size ≤ b) w' (.slice p n q) (Op.left l c) ∧ At EH (fun b => w.heap.size ≤ b) w' (.slice p' n' q') (Op.leftOf l c) ∧ Below w.heap.size w w' := by
  have HV : Hid (AtW EO w v l) := hv
  clear hv
  by_cases ha : Op.ask l c = 0
  · have HR0 : Hid (l.length ≤ 16) := by
      rcases Op.ask_or l c with ⟨_, hr, _⟩ | ⟨h, _⟩ | ⟨h, _⟩
      · exact Op.right_len hr
      · omega
      · omega
    have HA : Hid (Op.ask l c = 0) := ha
    have HE : Hid (Op.left l c = Op.without l (Op.owned l c)) := if_pos ha
    have HO' : Hid (Op.leftOf l c = (Op.owned l c).map Op.hOf) := if_pos ha
    rw [ha]
    clear ha
    go_enter Try.func16, Try.ntmps16
    go_wp2_with fail
    refine (refuse_any _ l c _ HV.out).mono ?_
    rintro e w1 ⟨rfl, hb⟩
    rw [HA.out]
    have HB1 : Hid (Below w.heap.size w w1) := hb
    have HV1 : Hid (AtW EO w1 v l) := HV.out.up hb
    clear hb
    go_wp2_with fail
    refine (owned_any _ l c _ HV1.out (by have := HR0.out; omega)).mono ?_
    rintro e w2 ⟨p2, n2, q2, rfl, h2, hb⟩
    have HB2 : Hid (Below w.heap.size w w2) := HB1.out.trans (hb.mono HB1.out.size)
    have HV2 : Hid (AtW EO w2 v l) := HV1.out.up hb
    have hsw := HB2.out.size
    obtain ⟨g, hg⟩ : ∃ g, Op.owned l c = g := ⟨_, rfl⟩
    have HG : Hid (Op.owned l c = g) := hg
    rw [hg] at h2
    have HGV : Hid (AtW EO w2 (.slice p2 n2 q2) g) := h2.wide
    obtain ⟨ao2, cap2, hve, -, hx2⟩ := h2.wide.open
    simp only [Value.slice.injEq] at hve
    obtain ⟨rfl, rfl, rfl⟩ := hve
    obtain ⟨n, hn⟩ : ∃ n, g.length = n := ⟨_, rfl⟩
    rw [hn] at HGV ⊢
    have HN : Hid (g.length = n) := hn
    have HX : Hid (Over w2 p2 g) := hx2
    have hn16 : n ≤ 16 := by have h1 := Op.owned_len l c; have := HR0.out; rw [hg, hn] at h1; omega
    obtain ⟨j0, hj, hy0, hy1, hy2⟩ := info_parts infoH
    clear hb h2 hx2 hg hn
    go_wp2
    go_loopw [9, 23] (fun u i wr => ∃ (k : Nat) (pp : Option Addr) (jj q : Nat), k ≤ n ∧ i = .int .i64 k ∧ u = .slice pp jj q ∧ Hid (Row EH wr w2.heap.size 24 (.slice pp jj q) ((g.take k).map Op.hOf)) ∧ Hid (Below w2.heap.size w2 wr)) (fun _ i _ => n - (intOf i).toNat)
    case atStart => exact ⟨0, none, 0, 0, Nat.zero_le _, rfl, rfl, by rw [List.take_zero]; exact Row.nil _ _ _ _, Below.refl _ _⟩
    case round =>
      obtain ⟨k, pp, jj, q, hk, rfl, rfl, HR, HB⟩ := hrel
      have HB3 : Hid (Below w.heap.size w wr) := HB2.out.trans (HB.out.mono HB2.out.size)
      have hsz := HB.out.size
      by_cases hlt : k < n
      · obtain ⟨x, hxk⟩ : ∃ x, g[k]? = some x := ⟨_, List.getElem?_eq_getElem (by rw [HN.out]; exact hlt)⟩
        have HXK : Hid (g[k]? = some x) := hxk
        obtain ⟨b, off, rfl, -, hB, hc⟩ := HX.out k x hxk
        obtain ⟨c0, c1, c2, c3⟩ := opn_cells HB.out hB hc
        clear hc hxk
        have hlt' : (k : Int) < (n : Int) := by omega
        have HLEN : Hid (((g.take k).map Op.hOf).length ≤ k) := Op.map_len g _ k
        have HG2 : Hid ((g.take (k + 1)).map Op.hOf = (g.take k).map Op.hOf ++ [x.2.2]) := Op.map_in HXK.out
        have HR3 : Hid (Row EH ((wr.alloc (BO x)).alloc (BH x.2.2.1 x.2.2.2)) w2.heap.size 24 (.slice pp jj q) ((g.take k).map Op.hOf)) := (HR.out.up ((Below.refl _ _).alloc (Nat.le_refl _) _)).up ((Below.refl _ _).alloc (Nat.le_refl _) _)
        have HB4 : Hid (Below w2.heap.size w2 ((wr.alloc (BO x)).alloc (BH x.2.2.1 x.2.2.2))) := (HB.out.alloc hsz _).alloc (by simp; omega) _
        have HO : Hid (AtW EH ((wr.alloc (BO x)).alloc (BH x.2.2.1 x.2.2.2)) (.slice (some ⟨wr.heap.size + 1, 0, none⟩) 1 1) [x.2.2]) := by
          have h2 := heap_alloc_new (wr.alloc (BO x)) (BH x.2.2.1 x.2.2.2)
          rw [show (wr.alloc (BO x)).heap.size = wr.heap.size + 1 by simp] at h2
          exact at_oneH h2
        go_wp2_with (at_builtin; refine wpList_row _ rfl _ _ 40 rfl EH (fun _ => True) w2.heap.size 24 j0 _ 16 Try.underlying40 hj hy0 hy1 hy2 rfl _ ((g.take k).map Op.hOf) rfl HR3.out _ [x.2.2] rfl HO.out (by have := HLEN.out; unfold maxLen; simp only [List.length_cons, List.length_nil]; omega) (by have := HLEN.out; simp only [List.length_cons, List.length_nil]; omega) (by simp; omega) ?_; intro v7 w7 hrow7 hg7 hloc7)
        have HEND : Hid (Row EH w7 w2.heap.size 24 v7 ((g.take (k + 1)).map Op.hOf) ∧ Below w2.heap.size w2 w7) := ⟨by rw [HG2.out]; exact hrow7, HB4.out.grown hg7 (by simp; omega) (fun k hk => (HR3.out.lt k hk).1)⟩
        clear hrow7 hg7 hloc7
        obtain ⟨p7, n7, c7, rfl⟩ := HEND.out.1.slice3
        go_wp2
        go_roundw
        case rel => exact ⟨k + 1, p7, n7, c7, by omega, by go_num, rfl, HEND.out.1, HEND.out.2⟩
        case measure => simp [intOf]; omega
      · obtain rfl : k = n := by omega
        have HEND : Hid (At EH (fun b => w.heap.size ≤ b) wr (.slice pp jj q) (Op.leftOf l c)) := by
          have := HR.out.at.imp (T := fun b => w.heap.size ≤ b) (fun b hb _ => by omega)
          rw [← HN.out, List.take_length, ← HG.out] at this
          rw [HO'.out]
          exact this
        go_wp2_with fail
        refine (without_any _ _ l g _ (HV2.out.up HB.out) (HGV.out.up HB.out) (by have := HR0.out; omega)).mono ?_
        rintro e w5 ⟨pu, nu, cu, rfl, hr, hb5⟩
        have HEND2 : Hid (At EO (fun b => w.heap.size ≤ b) w5 (.slice pu nu cu) (Op.left l c) ∧ At EH (fun b => w.heap.size ≤ b) w5 (.slice pp jj q) (Op.leftOf l c) ∧ Below w.heap.size w w5) := by
          refine ⟨?_, HEND.out.up hb5, HB3.out.trans (hb5.mono HB3.out.size)⟩
          rw [HE.out, HG.out]
          exact hr.imp (fun b hb _ => by omega)
        clear hr hb5
        go_wp2
        go_ret3
        exact ⟨_, _, _, _, _, _, rfl, HEND2.out.1, HEND2.out.2.1, HEND2.out.2.2⟩
  · have HE : Hid (Op.left l c = []) := if_neg ha
    have HO : Hid (Op.leftOf l c = []) := if_neg ha
    obtain ⟨a, haa⟩ : ∃ a, Op.ask l c = a := ⟨_, rfl⟩
    have HA : Hid (Op.ask l c = a) := haa
    rw [haa] at ha ⊢
    have hne : (a == 0) = false := beq_eq_false_iff_ne.2 ha
    clear ha haa
    go_enter Try.func16, Try.ntmps16
    go_wp2_with fail
    refine (refuse_any _ l c _ HV.out).mono ?_
    rintro e w1 ⟨rfl, hb⟩
    rw [HA.out]
    go_wp2
    go_ret3
    exact ⟨_, _, _, _, _, _, rfl, by rw [HE.out]; exact At.nil, by rw [HO.out]; exact At.nil, hb⟩
end Go.Proofs.Ytlikcijoejgkkaa
