/-
  The texts SRef3, SRef4, SRef5, FPage, FRefP, FSame, FRefD, FRefE, SRef6, SRef7, SRef8, as one.
-/
import Derived.Lib.LazyBuf
import Derived.Test.YtacghcoikekfeaaGreatM7
/- SRef3 -/
namespace Go.Proofs.YtacghcoikekfeaaGreat
open Go.ChangeShapes Go.WideShapes Go.ChangeAt Go.RowKit Go.Deep It
set_option maxRecDepth 100000
set_option maxHeartbeats 2000000 in
theorem rfree_any {S : Nat → Prop} (v : Value) (L : List Rw) (a b : Int) (s : ByteArray) (w : World) (hv : TabAt S w v L) (hok : Sp.okN L) (hs : s.size ≤ maxLen) (hr : It.right (pl L) = true) :
    Calls Tryz.prog 49 #[v, .agg #[.int .i64 a, .int .i64 b], .string s] w fun e w' => e = .returned (.int .i64 (Sp.nameErr (pl L) a b s)) ∧ Below w.heap.size w w' := by
  have HB0 : Hid (Below w.heap.size w (w.alloc (BH a b))) := (Below.refl _ w).alloc (Nat.le_refl _) _
  obtain ⟨⟨a0, a1⟩, _⟩ := two_of (heap_alloc_new w (BH a b))
  have HV : Hid (TabAt S (w.alloc (BH a b)) v L) := hv.up HB0.out
  obtain ⟨ao, cap, rfl, _, _⟩ := hv.open
  have HOK : Hid (Sp.okN L) := hok
  have HSM : Hid (s.size ≤ maxLen) := hs
  have HRT : Hid (It.right (pl L) = true) := hr
  clear hv hok hs hr
  obtain ⟨ne, hne⟩ : ∃ ne, Sp.nameErr (pl L) a b s = ne := ⟨_, rfl⟩
  have HNE : Hid (Sp.nameErr (pl L) a b s = ne) := hne
  rw [hne]
  unfold Sp.nameErr at hne
  obtain ⟨le, hle⟩ : ∃ le, Sp.lookErr (pl L) a b s = le := ⟨_, rfl⟩
  have HLE : Hid (Sp.lookErr (pl L) a b s = le) := hle
  rw [hle] at hne
  clear hle
  by_cases h0 : le = 0
  · subst h0
    rw [if_pos rfl] at hne
    subst hne
    go_enter Tryz.func49, Tryz.ntmps49
    go_wp2_with fail
    refine (rlook_any _ L a b s _ HV.out HOK.out HSM.out HRT.out).mono ?_
    rintro e w1 ⟨rfl, hb1⟩
    rw [HLE.out]
    generalize Sp.lookH (pl L) a b s = q
    have HB1 : Hid (Below w.heap.size w w1) := HB0.out.trans (hb1.mono HB0.out.size)
    clear a0 a1 HV hb1
    go_wp2
    go_ret
    refine ⟨rfl, ?_⟩
    exact HB1.out.alloc HB1.out.size _
  · have h0' : (le == 0) = false := beq_eq_false_iff_ne.2 h0
    rw [if_neg h0] at hne
    by_cases h2 : le = 402
    · subst h2
      rw [if_pos rfl] at hne
      subst hne
      clear h0 h0'
      go_enter Tryz.func49, Tryz.ntmps49
      go_wp2_with fail
      refine (rlook_any _ L a b s _ HV.out HOK.out HSM.out HRT.out).mono ?_
      rintro e w1 ⟨rfl, hb1⟩
      rw [HLE.out]
      generalize Sp.lookH (pl L) a b s = q
      have HB1 : Hid (Below w.heap.size w w1) := HB0.out.trans (hb1.mono HB0.out.size)
      clear a0 a1 HV hb1
      go_wp2
      go_ret
      refine ⟨rfl, ?_⟩
      exact HB1.out.alloc HB1.out.size _
    · have h2' : (le == 402) = false := beq_eq_false_iff_ne.2 h2
      rw [if_neg h2] at hne
      subst hne
      clear h0 h2
      go_enter Tryz.func49, Tryz.ntmps49
      go_wp2_with fail
      refine (rlook_any _ L a b s _ HV.out HOK.out HSM.out HRT.out).mono ?_
      rintro e w1 ⟨rfl, hb1⟩
      rw [HLE.out]
      generalize Sp.lookH (pl L) a b s = q
      have HB1 : Hid (Below w.heap.size w w1) := HB0.out.trans (hb1.mono HB0.out.size)
      clear a0 a1 HV hb1
      go_wp2
      go_ret
      refine ⟨rfl, ?_⟩
      exact HB1.out.alloc HB1.out.size _
end Go.Proofs.YtacghcoikekfeaaGreat
/- SRef4 -/
namespace Go.Proofs.YtacghcoikekfeaaGreat
open Go.ChangeShapes Go.WideShapes Go.ChangeAt Go.RowKit Go.Deep It
set_option maxRecDepth 100000
set_option maxHeartbeats 2000000 in
theorem rcopied_any {S : Nat → Prop} (v : Value) (L : List Rw) (w : World) (hv : TabAt S w v L) (hl : L.length ≤ 100000) :
    Calls Tryz.prog 89 #[v] w fun e w' => ∃ u, e = .returned u ∧ Row EI w' w.heap.size 65 u L ∧ Below w.heap.size w w' := by
  obtain ⟨i0, hi, hz0, hz1, hz2⟩ := info_parts infoI
  have HA : Hid (At EI S w v L) := hv.1
  have HN : Hid (L.length ≤ 100000) := hl
  have HR0 : Hid (Row EI w w.heap.size 65 (.slice none 0 0) []) := Row.nil _ _ _ _
  obtain ⟨ao, cap, rfl, -, -⟩ := hv.open
  clear hv hl
  go_enter Tryz.func89, Tryz.ntmps89
  go_wp2_with (at_builtin; refine wpList_row _ rfl _ _ 22 rfl EI S w.heap.size 65 i0 _ 96 Tryz.underlying22 hi hz0 hz1 hz2 rfl _ [] rfl HR0.out _ L rfl HA.out (by have := HN.out; unfold maxLen; simp; omega) (by have := HN.out; simp; omega) (Nat.le_refl _) ?_; intro v7 w7 hrow7 hg7 hloc7; have HR7 : Hid (Row EI w7 w.heap.size 65 v7 L) := hrow7; have HB7 : Hid (Below w.heap.size w w7) := below_none (by exact hg7) (Nat.le_refl _); clear hrow7 hg7 hloc7)
  go_ret
  exact ⟨v7, rfl, HR7.out, HB7.out⟩
end Go.Proofs.YtacghcoikekfeaaGreat
/- SRef5 -/
namespace Go.Proofs.YtacghcoikekfeaaGreat
open Go.ChangeShapes Go.WideShapes Go.ChangeAt Go.RowKit Go.Deep It
set_option maxRecDepth 100000
theorem Enc.flat_cell {α : Type} (E : Enc α) {l : List α} {k j : Nat} {x x' : α} {u : Value} (hk : l[k]? = some x) (hj : j < E.sz) (hc : E.cells x' = (E.cells x).set j u) : (E.flat l).set (k * E.sz + j) u = E.flat (l.set k x') := by
  have hlt := (List.getElem?_eq_some_iff.1 hk).1
  have h1 := E.flat_set l k x hlt
  have h2 := E.flat_set l k x' hlt
  have hx : l.set k x = l := by
    have : l[k] = x := (List.getElem?_eq_some_iff.1 hk).2
    rw [← this]
    exact List.set_getElem_self hlt
  rw [hx] at h1
  have hlen : ((E.flat l).take (k * E.sz)).length = k * E.sz := by
    rw [List.length_take, E.flat_length]
    exact Nat.min_eq_left (Nat.mul_le_mul_right _ (by omega))
  have hcl : (E.cells x).length = E.sz := E.len x
  rw [← h2, hc]
  generalize (E.flat l).take (k * E.sz) = A at *
  generalize (E.flat l).drop (k * E.sz + E.sz) = D at *
  rw [← h1, List.append_assoc, List.append_assoc, List.set_append_right _ _ (by omega), hlen, Nat.add_sub_cancel_left, List.set_append_left _ _ (by omega)]
theorem Row.cell {α : Type} {E : Enc α} {w : World} {B : Nat} {e : TypeId} {g n cap : Nat} {ls : List α} {k j : Nat} {x x' : α} {u : Value} (h : Row E w B e (.slice (some ⟨g, 0, none⟩) n cap) ls) (hk : ls[k]? = some x) (hj : j < E.sz) (hc : E.cells x' = (E.cells x).set j u) :
    Row E (w.setCell ⟨g, k * E.sz + j, none⟩ u) B e (.slice (some ⟨g, 0, none⟩) n cap) (ls.set k x') := by
  rcases h with ⟨h, _⟩ | ⟨g', cap', cur, hv, hB, hh, h1, h2, h3, h4⟩
  · cases h
  · simp only [Value.slice.injEq, Option.some.injEq, Addr.mk.injEq] at hv
    obtain ⟨⟨rfl, -, -⟩, rfl, rfl⟩ := hv
    refine .inr ⟨g, cap, cur.setIfInBounds (k * E.sz + j) u, by rw [List.length_set], hB, ?_, by rw [List.length_set]; exact h1, h2, by rw [Array.size_setIfInBounds]; exact h3, ?_⟩
    · simp [World.setCell, Array.getElem?_modify, hh]
    · rw [List.length_set, Array.toList_setIfInBounds, List.take_set, h4]
      exact E.flat_cell hk hj hc
end Go.Proofs.YtacghcoikekfeaaGreat
/- FPage -/
namespace Go.Proofs.YtacghcoikekfeaaGreat
open Go.ChangeShapes Go.WideShapes Go.ChangeAt Go.RowKit Go.Deep
set_option maxRecDepth 100000
namespace Fo
noncomputable def pageErr (l : List Ent) (next c n : Int) : Int := if err l next = 0 then (if 0 ≤ c ∧ (1 ≤ n ∧ n ≤ 64) then 0 else 1) else 4
noncomputable def page (l : List Ent) (next c n : Int) : List Ent := if pageErr l next c n = 0 ∧ 0 ≤ at' (past c) l then (l.drop (at' (past c) l).toNat).take n.toNat else []
theorem page_no {l : List Ent} {next c n e : Int} (h : pageErr l next c n = e) (he : e ≠ 0) : page l next c n = [] := by unfold page; rw [if_neg (fun k => he (h.symm.trans k.1))]
theorem page_miss {l : List Ent} {next c n : Int} (h : at' (past c) l = -1) : page l next c n = [] := by unfold page; rw [if_neg (fun k => by rw [h] at k; omega)]
theorem page_hit {l : List Ent} {next c n : Int} {k : Nat} (h : pageErr l next c n = 0) (hk : at' (past c) l = k) : page l next c n = (l.drop k).take n.toNat := by
  unfold page
  rw [if_pos ⟨h, by rw [hk]; omega⟩, hk]
  rfl
end Fo
theorem run_cut_lh (w : World) (a : Option Addr) (m cap k j : Nat) (hk : k ≤ j) (hj : j ≤ cap) : (Instr.slice 63 (.slice a m cap) (some (.int .i64 (k : Int))) (some (.int .i64 (j : Int))) none).run Tryz.prog w = .ok (sliced a k j cap EE.sz) w := by
  rw [run_slice_lh (P := Tryz.prog) w 63 a m cap Tryz.underlying63 .i64 .i64 (k : Int) (j : Int) (by omega) (by omega) (by omega)]
  rfl
end Go.Proofs.YtacghcoikekfeaaGreat
/- FRefP -/
namespace Go.Proofs.YtacghcoikekfeaaGreat
open Go.ChangeShapes Go.WideShapes Go.ChangeAt Go.RowKit Go.Deep
set_option maxRecDepth 100000
namespace Fo
/-- What the first k entries bring into a page. -/
def pre (l : List Ent) (c : Int) (n : Nat) (k : Nat) : List Ent := ((l.take k).filter (past c)).take n
theorem pre_zero' (l : List Ent) (c : Int) (n : Nat) : pre l c n 0 = [] := by simp [pre]
theorem pre_in {l : List Ent} {c : Int} {n k : Nat} {x : Ent} (hx : l[k]? = some x) (hp : past c x = true) (hl : (pre l c n k).length < n) : pre l c n (k + 1) = pre l c n k ++ [x] := by
  unfold pre at hl ⊢
  rw [List.length_take] at hl
  rw [List.take_add_one, hx, List.filter_append]
  simp only [Option.toList_some, List.filter_cons, hp, if_true, List.filter_nil]
  generalize (l.take k).filter (past c) = A at hl ⊢
  have h1 : (A ++ [x]).take n = A ++ [x] := List.take_of_length_le (by simp; omega)
  have h2 : A.take n = A := List.take_of_length_le (by omega)
  rw [h1, h2]
theorem pre_full {l : List Ent} {c : Int} {n k : Nat} (hl : ¬ (pre l c n k).length < n) : pre l c n (k + 1) = pre l c n k := by
  unfold pre at hl ⊢
  rw [List.length_take] at hl
  rw [List.take_add_one, List.filter_append, List.take_append_of_le_length (by omega)]
theorem pre_out {l : List Ent} {c : Int} {n k : Nat} {x : Ent} (hx : l[k]? = some x) (hp : past c x = false) : pre l c n (k + 1) = pre l c n k := by
  unfold pre
  rw [List.take_add_one, hx, List.filter_append]
  simp [hp]
theorem pre_len (l : List Ent) (c : Int) (n k : Nat) : (pre l c n k).length ≤ n := by simp [pre]; omega
/-- Behind the first cookie that is greater all are. -/
theorem rising {l : List Ent} {next : Int} (h : Right l next) : ∀ (j i : Nat) x y, i < j → l[i]? = some x → l[j]? = some y → x.2.1 < y.2.1 := fun j => by
  induction j with
  | zero => intro i x y hij; omega
  | succ j ih =>
    intro i x y hij hx hy
    have hjl := (List.getElem?_eq_some_iff.1 hy).1
    have hz : l[j]? = some (l[j]'(by omega)) := List.getElem?_eq_getElem _
    have hg := h.2.1 (j + 1) hjl y hy
    rw [lastC_succ hz] at hg
    by_cases e : i = j
    · subst e
      rw [hx] at hz
      cases hz
      omega
    · have := ih i x _ (by omega) hx hz
      omega
theorem page_pre {l : List Ent} {next c n : Int} (h : Right l next) (hp : pageErr l next c n = 0) : page l next c n = pre l c n.toNat l.length := by
  unfold pre
  rw [List.take_length]
  rcases at_or (past c) l with ⟨ht, hall⟩ | ⟨k, x, ht, hx, hk, hb⟩
  · rw [page_miss ht, List.filter_eq_nil_iff.2 (fun y hy => by rw [hall y hy]; decide), List.take_nil]
  · rw [page_hit hp ht]
    congr 1
    have e : l = l.take k ++ l.drop k := (List.take_append_drop k l).symm
    rw [e, List.filter_append, ← e]
    have h1 : (l.take k).filter (past c) = [] := List.filter_eq_nil_iff.2 fun y hy => by
      obtain ⟨j, hj⟩ := List.mem_iff_getElem?.1 hy
      have hjk : j < k := by have := (List.getElem?_eq_some_iff.1 hj).1; simp at this; omega
      rw [List.getElem?_take_of_lt hjk] at hj
      rw [hb j y hjk hj]
      decide
    have h2 : (l.drop k).filter (past c) = l.drop k := List.filter_eq_self.2 fun y hy => by
      obtain ⟨j, hj⟩ := List.mem_iff_getElem?.1 hy
      rw [List.getElem?_drop] at hj
      have hx1 : c < x.2.1 := of_decide_eq_true hk
      refine decide_eq_true ?_
      by_cases e0 : j = 0
      · subst e0
        rw [Nat.add_zero, hx] at hj
        cases hj
        exact hx1
      · have := rising h (k + j) k x y (by omega) hx hj
        omega
    rw [h1, h2, List.nil_append]
end Fo
abbrev BF (v : Value) (next : Int) : Obj := .cells #[v, .int .i64 next] 127
theorem boxf_cells (w : World) (v : Value) (next : Int) : (w.alloc (BF v next)).cell? ⟨w.heap.size, 0, none⟩ = some v ∧ (w.alloc (BF v next)).cell? ⟨w.heap.size, 1, none⟩ = some (.int .i64 next) := by
  have hh := heap_alloc_new w (BF v next)
  constructor <;> simp only [World.cell?, hh] <;> rfl
end Go.Proofs.YtacghcoikekfeaaGreat
/- FSame -/
namespace Go.Proofs.YtacghcoikekfeaaGreat
open Go.ChangeShapes Go.WideShapes Go.ChangeAt Go.RowKit Go.Deep
set_option maxRecDepth 100000

set_option maxHeartbeats 1000000 in
theorem fentries_same {S T : Nat → Prop} (u v : Value) (l : List (ByteArray × Int × Int × Int)) (w : World) (hu : At EE S w u l) (hv : At EE T w v l) :
    Calls Tryz.prog 53 #[u, v] w fun e w' => e = .returned (.bool true) ∧ Below w.heap.size w w' := by
  obtain ⟨ao, cap, rfl, hm, hx⟩ := hu.open
  obtain ⟨bo, cap', rfl, _, hy⟩ := hv.open
  clear hu hv
  unfold maxLen at hm
  obtain ⟨n, hn⟩ : ∃ n, l.length = n := ⟨_, rfl⟩
  rw [hn] at hm ⊢
  have HN : Hid (l.length = n) := hn
  have HX : Hid (∀ i x, l[i]? = some x → ∃ b off, ao = some ⟨b, off, none⟩ ∧ S b ∧ b < w.heap.size ∧ ∀ k u, (EE.cells x)[k]? = some u → w.cell? ⟨b, off + (i * 4 + k), none⟩ = some u) := hx
  have HY : Hid (∀ i x, l[i]? = some x → ∃ b off, bo = some ⟨b, off, none⟩ ∧ T b ∧ b < w.heap.size ∧ ∀ k u, (EE.cells x)[k]? = some u → w.cell? ⟨b, off + (i * 4 + k), none⟩ = some u) := hy
  clear hn hx hy
  go_enter Tryz.func53, Tryz.ntmps53
  go_wp2
  go_loopw [8] (fun i wr => ∃ k : Nat, k ≤ n ∧ i = .int .i64 k ∧ Below w.heap.size w wr) (fun i _ => n - (intOf i).toNat)
  case atStart => exact ⟨0, Nat.zero_le _, rfl, Below.refl _ _⟩
  case round =>
    obtain ⟨k, hk, rfl, hbl⟩ := hrel
    by_cases hlt : k < n
    · obtain ⟨y, hyk⟩ : ∃ y, l[k]? = some y := ⟨_, List.getElem?_eq_getElem (by rw [HN.out]; exact hlt)⟩
      obtain ⟨b, off, rfl, _, hB, hc⟩ := HX.out k y hyk
      obtain ⟨b', off', rfl, _, hB', hc'⟩ := HY.out k y hyk
      have c0 := hc 0 _ rfl
      have c1 := hc 1 _ rfl
      have c2 := hc 2 _ rfl
      have c3 := hc 3 _ rfl
      have d0 := hc' 0 _ rfl
      have d1 := hc' 1 _ rfl
      have d2 := hc' 2 _ rfl
      have d3 := hc' 3 _ rfl
      rw [← hbl.cell (p := ⟨b, off + (k * 4 + 0), none⟩) hB, Nat.add_zero] at c0
      rw [← hbl.cell (p := ⟨b, off + (k * 4 + 1), none⟩) hB, ← Nat.add_assoc] at c1
      rw [← hbl.cell (p := ⟨b, off + (k * 4 + 2), none⟩) hB, ← Nat.add_assoc] at c2
      rw [← hbl.cell (p := ⟨b, off + (k * 4 + 3), none⟩) hB, ← Nat.add_assoc] at c3
      rw [← hbl.cell (p := ⟨b', off' + (k * 4 + 0), none⟩) hB', Nat.add_zero] at d0
      rw [← hbl.cell (p := ⟨b', off' + (k * 4 + 1), none⟩) hB', ← Nat.add_assoc] at d1
      rw [← hbl.cell (p := ⟨b', off' + (k * 4 + 2), none⟩) hB', ← Nat.add_assoc] at d2
      rw [← hbl.cell (p := ⟨b', off' + (k * 4 + 3), none⟩) hB', ← Nat.add_assoc] at d3
      obtain ⟨y0, y1, y2, y3⟩ := y
      simp only at c0 c1 c2 c3 d0 d1 d2 d3
      have hlt' : (k : Int) < (n : Int) := by omega
      have hge : decide ((n : Int) ≤ (k : Int)) = false := by simp; omega
      have hge2 : decide (n ≤ k) = false := by simp; omega
      clear hyk hc hc'
      go_wp2
      go_quiet (fail)
      go_wp2
      go_roundw
      case rel => exact ⟨k + 1, by omega, by go_num, Go.below_drewN hbl _⟩
      case measure => simp [intOf]; omega
    · obtain rfl : k = n := by omega
      go_wp2
      go_ret
      exact ⟨by simp, hbl⟩
end Go.Proofs.YtacghcoikekfeaaGreat
/- FRefD -/
namespace Go.Proofs.YtacghcoikekfeaaGreat
open Go.ChangeShapes Go.WideShapes Go.ChangeAt Go.RowKit Go.Deep
set_option maxRecDepth 100000
abbrev BZF : Obj := .cells #[.slice none 0 0, .int .i64 0] 127
theorem fold_of {w : World} {A : Nat} {v : Value} {n : Int} (h : w.heap[A]? = some (BF v n)) :
    (w.cell? ⟨A, 0, none⟩ = some v ∧ w.cell? ⟨A, 1, none⟩ = some (.int .i64 n)) ∧ ∀ j, w.frozen? ⟨A, j, none⟩ = false := by
  refine ⟨⟨?_, ?_⟩, fun j => ?_⟩ <;> simp [World.cell?, World.frozen?, h]
theorem handb_of {w : World} {A : Nat} {no gen : Int} (h : w.heap[A]? = some (BHf no gen)) : w.cell? ⟨A, 0, none⟩ = some (.int .i64 no) ∧ w.cell? ⟨A, 1, none⟩ = some (.int .i64 gen) := by
  constructor <;> simp [World.cell?, h]
/-- Three boxes that stay. -/
abbrev Bx (n : Nat) (v : Value) (next no gen : Int) (w : World) : Prop := w.heap[n]? = some (BF v next) ∧ w.heap[n + 1]? = some (BHf no gen) ∧ w.heap[n + 2]? = some BZF
theorem Bx.step {n : Nat} {v : Value} {next no gen : Int} {w w' : World} (h : Bx n v next no gen w) (hb : Below w.heap.size w w') : Bx n v next no gen w' :=
  ⟨(hb.block _ (Array.getElem?_eq_some_iff.1 h.1).1).trans h.1, (hb.block _ (Array.getElem?_eq_some_iff.1 h.2.1).1).trans h.2.1, (hb.block _ (Array.getElem?_eq_some_iff.1 h.2.2).1).trans h.2.2⟩
theorem Bx.off {n : Nat} {v : Value} {next no gen : Int} {w : World} (h : Bx n v next no gen w) : n + 2 < w.heap.size := (Array.getElem?_eq_some_iff.1 h.2.2).1
theorem bx_new (w : World) (v : Value) (next no gen : Int) : Bx w.heap.size v next no gen (((w.alloc (BF v next)).alloc (BHf no gen)).alloc BZF) ∧ Below w.heap.size w (((w.alloc (BF v next)).alloc (BHf no gen)).alloc BZF) := by
  have z1 : (w.alloc (BF v next)).heap.size = w.heap.size + 1 := by simp
  have z2 : ((w.alloc (BF v next)).alloc (BHf no gen)).heap.size = w.heap.size + 2 := by simp
  have h1 := heap_alloc_new w (BF v next)
  have h2 := heap_alloc_new (w.alloc (BF v next)) (BHf no gen)
  have h3 := heap_alloc_new ((w.alloc (BF v next)).alloc (BHf no gen)) BZF
  rw [z1] at h2
  rw [z2] at h3
  exact ⟨⟨(Below.heap_alloc _ _ _ (by omega)).trans ((Below.heap_alloc _ _ _ (by omega)).trans h1), (Below.heap_alloc _ _ _ (by omega)).trans h2, h3⟩, (((Below.refl _ w).alloc (Nat.le_refl _) _).alloc (by simp) _).alloc (by simp; omega) _⟩
set_option maxHeartbeats 4000000 in
theorem radd_any (v : Value) (l : List Ent) (next : Int) (s : ByteArray) (no gen : Int) (w : World) (hv : AtW EE w v l) (hs : ∀ x ∈ l, x.1.size ≤ maxLen) (hn : s.size ≤ maxLen) :
    Calls Tryz.prog 88 #[VD v next, .string s, VHf no gen] w fun e w' => ∃ u, e = .returned (.tuple #[VD u (if Fo.addErr l next s no gen = 0 then next + 1 else 0), .int .i64 (Fo.addErr l next s no gen)]) ∧
      At EE (fun b => w.heap.size ≤ b) w' u (if Fo.addErr l next s no gen = 0 then l ++ [(s, next + 1, no, gen)] else []) ∧ Below w.heap.size w w' := by
  have hv0 := hv
  obtain ⟨ao, cap, rfl, hm, -⟩ := hv0.open
  clear hv0
  unfold maxLen at hm
  obtain ⟨m, hlm⟩ : ∃ m, l.length = m := ⟨_, rfl⟩
  rw [hlm] at hm hv ⊢
  have HLM : Hid (l.length = m) := hlm
  clear hlm
  obtain ⟨W, hW⟩ : ∃ W, W = ((w.alloc (BF (.slice ao m cap) next)).alloc (BHf no gen)).alloc BZF := ⟨_, rfl⟩
  obtain ⟨HX0, HB0⟩ : Hid (Bx w.heap.size (.slice ao m cap) next no gen W) ∧ Hid (Below w.heap.size w W) := by rw [hW]; exact bx_new w _ next no gen
  have HV : Hid (AtW EE W (.slice ao m cap) l) := hv.up HB0.out
  have HS : Hid (∀ x ∈ l, x.1.size ≤ maxLen) := hs
  have HNN : Hid (s.size ≤ maxLen) := hn
  obtain ⟨⟨x0, x1⟩, -⟩ := fold_of HX0.out.1
  clear hv hs hn
  rcases Fo.ask_or l next s with ⟨ha, hrt, -⟩ | ⟨ha, -⟩ | ⟨ha, -, -⟩
  · have HA : Hid (Fo.ask l next s = 0) := ha
    by_cases ho : Ho no gen
    · have HD : Hid (decide (Ho no gen) = true) := decide_eq_true ho
      rcases Fo.at_or (Fo.called s) l with ⟨ht, -⟩ | ⟨k, x, ht, -, -, -⟩
      · have HT : Hid (Fo.at' (Fo.called s) l = -1) := ht
        by_cases hx : next = 1099511627776
        · have hE : Fo.addErr l next s no gen = 407 := Fo.add_full ha ho ht hx
          rw [hE, if_neg (by decide), if_neg (by decide)]
          have hx' : (next == 1099511627776) = true := by simp [hx]
          clear ha ho ht hx hrt hE
          go_enter Tryz.func88, Tryz.ntmps88
          go_wp2_with fail
          rw [← hW]
          refine (asked_any _ l next s _ HV.out HS.out HNN.out).mono ?_
          rintro e w1 ⟨rfl, hb⟩
          rw [HA.out]
          have HB1 : Hid (Below w.heap.size w w1) := HB0.out.trans (hb.mono HB0.out.size)
          have HX1 : Hid (Bx w.heap.size (.slice ao m cap) next no gen w1) := HX0.out.step hb
          have HV1 : Hid (AtW EE w1 (.slice ao m cap) l) := HV.out.up hb
          clear hb hW x0 x1
          obtain ⟨k0, k1⟩ := handb_of HX1.out.2.1
          go_wp2_with fail
          refine (rto_any no gen _).mono ?_
          rintro e w2 ⟨rfl, hw2⟩
          rw [HD.out]
          have hb2 : Below w1.heap.size w1 w2 := by rw [hw2]; exact (Below.refl _ _).alloc (Nat.le_refl _) _
          have HB2 : Hid (Below w.heap.size w w2) := HB1.out.trans (hb2.mono HB1.out.size)
          have HX2 : Hid (Bx w.heap.size (.slice ao m cap) next no gen w2) := HX1.out.step hb2
          have HV2 : Hid (AtW EE w2 (.slice ao m cap) l) := HV1.out.up hb2
          clear hb2 hw2 k0 k1
          obtain ⟨⟨y0, y1⟩, -⟩ := fold_of HX2.out.1
          go_wp2_with fail
          refine (rplace_any _ l s _ HV2.out).mono ?_
          rintro e w3 ⟨rfl, hb⟩
          rw [HT.out]
          have HB3 : Hid (Below w.heap.size w w3) := HB2.out.trans (hb.mono HB2.out.size)
          have HX3 : Hid (Bx w.heap.size (.slice ao m cap) next no gen w3) := HX2.out.step hb
          have HV3 : Hid (AtW EE w3 (.slice ao m cap) l) := HV2.out.up hb
          clear hb y0 y1
          obtain ⟨⟨z0, z1⟩, -⟩ := fold_of HX3.out.1
          obtain ⟨⟨r0, r1⟩, rf⟩ := fold_of (v := .slice none 0 0) (n := 0) HX3.out.2.2
          go_wp2
          (try simp only [Exit.inBlock, Exit.then])
          refine bodyPost_ret (v := .tuple #[VD (.slice none 0 0) 0, .int .i64 407]) ?_ rfl ⟨.slice none 0 0, rfl, At.nil, ?_⟩
          · rw [results_cell_tmp rfl]
            go_simp
          · repeat (refine Below.setCell ?_ (by simp; omega) _)
            exact HB3.out
        · have hE : Fo.addErr l next s no gen = 0 := Fo.add_ok ha ho ht hx
          rw [hE, if_pos rfl, if_pos rfl]
          have hx' : (next == 1099511627776) = false := by simp [hx]
          have hnx : 0 ≤ next ∧ next ≤ 1099511627776 := hrt.1
          obtain ⟨hn0, hn1⟩ := hnx
          have HLEN : Hid (l.length ≤ 1099511627776) := by
            have := Fo.right_len hrt
            show l.length ≤ 1099511627776
            omega
          obtain ⟨j0, hj, hy0, hy1, hy2⟩ := info_parts finfoE
          clear ha ho ht hx hrt hE
          go_enter Tryz.func88, Tryz.ntmps88
          go_wp2_with fail
          rw [← hW]
          refine (asked_any _ l next s _ HV.out HS.out HNN.out).mono ?_
          rintro e w1 ⟨rfl, hb⟩
          rw [HA.out]
          have HB1 : Hid (Below w.heap.size w w1) := HB0.out.trans (hb.mono HB0.out.size)
          have HX1 : Hid (Bx w.heap.size (.slice ao m cap) next no gen w1) := HX0.out.step hb
          have HV1 : Hid (AtW EE w1 (.slice ao m cap) l) := HV.out.up hb
          clear hb hW x0 x1
          obtain ⟨k0, k1⟩ := handb_of HX1.out.2.1
          go_wp2_with fail
          refine (rto_any no gen _).mono ?_
          rintro e w2 ⟨rfl, hw2⟩
          rw [HD.out]
          have hb2 : Below w1.heap.size w1 w2 := by rw [hw2]; exact (Below.refl _ _).alloc (Nat.le_refl _) _
          have HB2 : Hid (Below w.heap.size w w2) := HB1.out.trans (hb2.mono HB1.out.size)
          have HX2 : Hid (Bx w.heap.size (.slice ao m cap) next no gen w2) := HX1.out.step hb2
          have HV2 : Hid (AtW EE w2 (.slice ao m cap) l) := HV1.out.up hb2
          clear hb2 hw2 k0 k1
          obtain ⟨⟨y0, y1⟩, -⟩ := fold_of HX2.out.1
          go_wp2_with fail
          refine (rplace_any _ l s _ HV2.out).mono ?_
          rintro e w3 ⟨rfl, hb⟩
          rw [HT.out]
          have HB3 : Hid (Below w.heap.size w w3) := HB2.out.trans (hb.mono HB2.out.size)
          have HX3 : Hid (Bx w.heap.size (.slice ao m cap) next no gen w3) := HX2.out.step hb
          have HV3 : Hid (AtW EE w3 (.slice ao m cap) l) := HV2.out.up hb
          clear hb y0 y1
          obtain ⟨⟨z0, z1⟩, -⟩ := fold_of HX3.out.1
          have hs3 := HB3.out.size
          have ho3 := HX3.out.off
          have HRN : Hid (Row EE w3 w3.heap.size 69 (.slice none 0 0) []) := Row.nil _ _ _ _
          go_wp2_with (first
            | (at_builtin; refine wpList_row _ rfl _ _ 63 rfl EE (fun _ => True) w3.heap.size 69 j0 _ 40 Tryz.underlying63 hj hy0 hy1 hy2 rfl _ [] rfl HRN.out _ l rfl HV3.out (by have := HLEN.out; unfold maxLen; simp only [List.length_nil]; omega) (by have := HLEN.out; simp only [List.length_nil]; omega) (Nat.le_refl _) ?_; intro v7 w7 hrow7 hg7 hloc7; have HB7 : Hid (Below w3.heap.size w3 w7) := (Below.refl _ _).grown hg7 (Nat.le_refl _) (fun k hk => by cases hk); have HX7 : Hid (Bx w.heap.size (.slice ao m cap) next no gen w7) := HX3.out.step HB7.out; have hk23 := handb_of HX7.out.2.1; have k2 := hk23.1; have k3 := hk23.2; have hz23 := (fold_of HX7.out.1).1; have z2 := hz23.1; have z3 := hz23.2; have HR8 : Hid (Row EE (w7.alloc (BE (s, next + 1, no, gen))) w3.heap.size 69 v7 l) := Row.up (show Row EE w7 w3.heap.size 69 v7 l from by simpa using hrow7) ((Below.refl _ _).alloc (Nat.le_refl _) _); have HO8 : Hid (AtW EE (w7.alloc (BE (s, next + 1, no, gen))) (.slice (some ⟨w7.heap.size, 0, none⟩) 1 1) [(s, next + 1, no, gen)]) := at_one (heap_alloc_new w7 _); have hs7 := HB7.out.size; clear hrow7 hg7 hloc7 hk23 hz23 z0 z1)
            | (at_builtin; refine wpList_row _ rfl _ _ 63 rfl EE (fun _ => True) w3.heap.size 69 j0 _ 40 Tryz.underlying63 hj hy0 hy1 hy2 rfl _ l rfl HR8.out _ [(s, next + 1, no, gen)] rfl HO8.out (by have := HLEN.out; unfold maxLen; simp only [List.length_cons, List.length_nil]; omega) (by have := HLEN.out; simp only [List.length_cons, List.length_nil]; omega) (by simp; omega) ?_; intro v8 w8 hrow8 hg8 hloc8; have HB8 : Hid (Below w3.heap.size w3 w8) := (HB7.out.alloc hs7 _).grown hg8 (by simp; omega) (fun k hk => (HR8.out.lt k hk).1); have HX8 : Hid (Bx w.heap.size (.slice ao m cap) next no gen w8) := HX3.out.step HB8.out; have hf8 := fold_of HX8.out.1; have z4 := hf8.1.1; have z5 := hf8.1.2; have hr8 := fold_of (v := .slice none 0 0) (n := 0) HX8.out.2.2; have r0 := hr8.1.1; have r1 := hr8.1.2; have rf := hr8.2; have HR9 : Hid (Row EE w8 w3.heap.size 69 v8 (l ++ [(s, next + 1, no, gen)])) := hrow8; obtain ⟨p8, n8, c8, hv8⟩ := hrow8.slice3; subst hv8; clear hrow8 hg8 hloc8 hf8 hr8 k2 k3 z2 z3))
          (try simp only [Exit.inBlock, Exit.then])
          refine bodyPost_ret (v := .tuple #[VD (.slice p8 n8 c8) (next + 1), .int .i64 0]) ?_ rfl ⟨.slice p8 n8 c8, rfl, ?_, ?_⟩
          · rw [results_cell_tmp rfl]
            go_simp
          · refine At.imp (S := fun b => w3.heap.size ≤ b) ?_ (fun b hb _ => by omega)
            repeat (refine At.setCellF ?_ (by simp; omega) _)
            exact HR9.out.at
          · repeat (refine Below.setCell ?_ (by simp; omega) _)
            exact HB3.out.trans (HB8.out.mono hs3)
      · have hE : Fo.addErr l next s no gen = 403 := Fo.add_has ha ho ht
        have HT : Hid (Fo.at' (Fo.called s) l = k) := ht
        rw [hE, if_neg (by decide), if_neg (by decide)]
        clear ha ho ht hrt hE
        go_enter Tryz.func88, Tryz.ntmps88
        go_wp2_with fail
        rw [← hW]
        refine (asked_any _ l next s _ HV.out HS.out HNN.out).mono ?_
        rintro e w1 ⟨rfl, hb⟩
        rw [HA.out]
        have HB1 : Hid (Below w.heap.size w w1) := HB0.out.trans (hb.mono HB0.out.size)
        have HX1 : Hid (Bx w.heap.size (.slice ao m cap) next no gen w1) := HX0.out.step hb
        have HV1 : Hid (AtW EE w1 (.slice ao m cap) l) := HV.out.up hb
        clear hb hW x0 x1
        obtain ⟨k0, k1⟩ := handb_of HX1.out.2.1
        go_wp2_with fail
        refine (rto_any no gen _).mono ?_
        rintro e w2 ⟨rfl, hw2⟩
        rw [HD.out]
        have hb2 : Below w1.heap.size w1 w2 := by rw [hw2]; exact (Below.refl _ _).alloc (Nat.le_refl _) _
        have HB2 : Hid (Below w.heap.size w w2) := HB1.out.trans (hb2.mono HB1.out.size)
        have HX2 : Hid (Bx w.heap.size (.slice ao m cap) next no gen w2) := HX1.out.step hb2
        have HV2 : Hid (AtW EE w2 (.slice ao m cap) l) := HV1.out.up hb2
        clear hb2 hw2 k0 k1
        obtain ⟨⟨y0, y1⟩, -⟩ := fold_of HX2.out.1
        go_wp2_with fail
        refine (rplace_any _ l s _ HV2.out).mono ?_
        rintro e w3 ⟨rfl, hb⟩
        rw [HT.out]
        have HB3 : Hid (Below w.heap.size w w3) := HB2.out.trans (hb.mono HB2.out.size)
        have HX3 : Hid (Bx w.heap.size (.slice ao m cap) next no gen w3) := HX2.out.step hb
        have HV3 : Hid (AtW EE w3 (.slice ao m cap) l) := HV2.out.up hb
        clear hb y0 y1
        obtain ⟨⟨z0, z1⟩, -⟩ := fold_of HX3.out.1
        obtain ⟨⟨r0, r1⟩, rf⟩ := fold_of (v := .slice none 0 0) (n := 0) HX3.out.2.2
        go_wp2
        (try simp only [Exit.inBlock, Exit.then])
        refine bodyPost_ret (v := .tuple #[VD (.slice none 0 0) 0, .int .i64 403]) ?_ rfl ⟨.slice none 0 0, rfl, At.nil, ?_⟩
        · rw [results_cell_tmp rfl]
          go_simp
        · repeat (refine Below.setCell ?_ (by simp; omega) _)
          exact HB3.out
    · have HD : Hid (decide (Ho no gen) = false) := decide_eq_false ho
      have hE : Fo.addErr l next s no gen = 1 := Fo.add_ho ha ho
      rw [hE, if_neg (by decide), if_neg (by decide)]
      clear ha ho hrt hE
      go_enter Tryz.func88, Tryz.ntmps88
      go_wp2_with fail
      rw [← hW]
      refine (asked_any _ l next s _ HV.out HS.out HNN.out).mono ?_
      rintro e w1 ⟨rfl, hb⟩
      rw [HA.out]
      have HB1 : Hid (Below w.heap.size w w1) := HB0.out.trans (hb.mono HB0.out.size)
      have HX1 : Hid (Bx w.heap.size (.slice ao m cap) next no gen w1) := HX0.out.step hb
      have HV1 : Hid (AtW EE w1 (.slice ao m cap) l) := HV.out.up hb
      clear hb hW x0 x1
      obtain ⟨k0, k1⟩ := handb_of HX1.out.2.1
      go_wp2_with fail
      refine (rto_any no gen _).mono ?_
      rintro e w2 ⟨rfl, hw2⟩
      rw [HD.out]
      have hb2 : Below w1.heap.size w1 w2 := by rw [hw2]; exact (Below.refl _ _).alloc (Nat.le_refl _) _
      have HB2 : Hid (Below w.heap.size w w2) := HB1.out.trans (hb2.mono HB1.out.size)
      have HX2 : Hid (Bx w.heap.size (.slice ao m cap) next no gen w2) := HX1.out.step hb2
      have HV2 : Hid (AtW EE w2 (.slice ao m cap) l) := HV1.out.up hb2
      clear hb2 hw2 k0 k1
      obtain ⟨⟨r0, r1⟩, rf⟩ := fold_of (v := .slice none 0 0) (n := 0) HX2.out.2.2
      go_wp2
      (try simp only [Exit.inBlock, Exit.then])
      refine bodyPost_ret (v := .tuple #[VD (.slice none 0 0) 0, .int .i64 1]) ?_ rfl ⟨.slice none 0 0, rfl, At.nil, ?_⟩
      · rw [results_cell_tmp rfl]
        go_simp
      · repeat (refine Below.setCell ?_ (by simp; omega) _)
        exact HB2.out
  · have HA : Hid (Fo.ask l next s = 4) := ha
    rw [Fo.add_ask ha (by decide), if_neg (by decide), if_neg (by decide)]
    clear ha
    go_enter Tryz.func88, Tryz.ntmps88
    go_wp2_with fail
    rw [← hW]
    refine (asked_any _ l next s _ HV.out HS.out HNN.out).mono ?_
    rintro e w1 ⟨rfl, hb⟩
    rw [HA.out]
    have HB1 : Hid (Below w.heap.size w w1) := HB0.out.trans (hb.mono HB0.out.size)
    have HX1 : Hid (Bx w.heap.size (.slice ao m cap) next no gen w1) := HX0.out.step hb
    have HV1 : Hid (AtW EE w1 (.slice ao m cap) l) := HV.out.up hb
    clear hb hW x0 x1
    obtain ⟨⟨r0, r1⟩, rf⟩ := fold_of (v := .slice none 0 0) (n := 0) HX1.out.2.2
    go_wp2
    (try simp only [Exit.inBlock, Exit.then])
    refine bodyPost_ret (v := .tuple #[VD (.slice none 0 0) 0, .int .i64 4]) ?_ rfl ⟨.slice none 0 0, rfl, At.nil, ?_⟩
    · rw [results_cell_tmp rfl]
      go_simp
    · repeat (refine Below.setCell ?_ (by simp; omega) _)
      exact HB1.out
  · have HA : Hid (Fo.ask l next s = 409) := ha
    rw [Fo.add_ask ha (by decide), if_neg (by decide), if_neg (by decide)]
    clear ha
    go_enter Tryz.func88, Tryz.ntmps88
    go_wp2_with fail
    rw [← hW]
    refine (asked_any _ l next s _ HV.out HS.out HNN.out).mono ?_
    rintro e w1 ⟨rfl, hb⟩
    rw [HA.out]
    have HB1 : Hid (Below w.heap.size w w1) := HB0.out.trans (hb.mono HB0.out.size)
    have HX1 : Hid (Bx w.heap.size (.slice ao m cap) next no gen w1) := HX0.out.step hb
    have HV1 : Hid (AtW EE w1 (.slice ao m cap) l) := HV.out.up hb
    clear hb hW x0 x1
    obtain ⟨⟨r0, r1⟩, rf⟩ := fold_of (v := .slice none 0 0) (n := 0) HX1.out.2.2
    go_wp2
    (try simp only [Exit.inBlock, Exit.then])
    refine bodyPost_ret (v := .tuple #[VD (.slice none 0 0) 0, .int .i64 409]) ?_ rfl ⟨.slice none 0 0, rfl, At.nil, ?_⟩
    · rw [results_cell_tmp rfl]
      go_simp
    · repeat (refine Below.setCell ?_ (by simp; omega) _)
      exact HB1.out
end Go.Proofs.YtacghcoikekfeaaGreat
/- FRefE -/
namespace Go.Proofs.YtacghcoikekfeaaGreat
open Go.ChangeShapes Go.WideShapes Go.ChangeAt Go.RowKit Go.Deep
set_option maxRecDepth 100000
namespace Fo
theorem take_at {l : List Ent} {k : Nat} {x : Ent} (h : l[k]? = some x) : l.take (k + 1) = l.take k ++ [x] := by
  rw [List.take_add_one, h]
  rfl
theorem er_in {l : List Ent} {k a : Nat} {x : Ent} (h : l[k]? = some x) (hk : ¬ k = a) : (l.take (k + 1)).eraseIdx a = (l.take k).eraseIdx a ++ [x] := by
  have hlen : (l.take k).length = k := by have := (List.getElem?_eq_some_iff.1 h).1; simp; omega
  rw [take_at h]
  by_cases ha : a < k
  · rw [List.eraseIdx_append_of_lt_length (by omega)]
  · rw [List.eraseIdx_append_of_length_le (by omega), hlen, List.eraseIdx_of_length_le (by omega : (l.take k).length ≤ a)]
    obtain ⟨n, hn⟩ : ∃ n, a - k = n + 1 := ⟨a - k - 1, by omega⟩
    rw [hn]
    rfl
theorem er_at {l : List Ent} {k : Nat} {x : Ent} (h : l[k]? = some x) : (l.take (k + 1)).eraseIdx k = (l.take k).eraseIdx k := by
  have hlen : (l.take k).length = k := by have := (List.getElem?_eq_some_iff.1 h).1; simp; omega
  rw [take_at h, List.eraseIdx_append_of_length_le (by omega), hlen, Nat.sub_self, List.eraseIdx_of_length_le (by omega : (l.take k).length ≤ k)]
  simp
theorem er_len (l : List Ent) (k a : Nat) : ((l.take k).eraseIdx a).length ≤ k := Nat.le_trans (List.length_eraseIdx_le _ _) (by simp; omega)
end Fo
abbrev Bx2 (n : Nat) (v : Value) (next : Int) (w : World) : Prop := w.heap[n]? = some (BF v next) ∧ w.heap[n + 1]? = some BZF
theorem Bx2.step {n : Nat} {v : Value} {next : Int} {w w' : World} (h : Bx2 n v next w) (hb : Below w.heap.size w w') : Bx2 n v next w' :=
  ⟨(hb.block _ (Array.getElem?_eq_some_iff.1 h.1).1).trans h.1, (hb.block _ (Array.getElem?_eq_some_iff.1 h.2).1).trans h.2⟩
theorem Bx2.off {n : Nat} {v : Value} {next : Int} {w : World} (h : Bx2 n v next w) : n + 1 < w.heap.size := (Array.getElem?_eq_some_iff.1 h.2).1
theorem bx2_new (w : World) (v : Value) (next : Int) : Bx2 w.heap.size v next ((w.alloc (BF v next)).alloc BZF) ∧ Below w.heap.size w ((w.alloc (BF v next)).alloc BZF) := by
  have z1 : (w.alloc (BF v next)).heap.size = w.heap.size + 1 := by simp
  have h1 := heap_alloc_new w (BF v next)
  have h2 := heap_alloc_new (w.alloc (BF v next)) BZF
  rw [z1] at h2
  exact ⟨⟨(Below.heap_alloc _ _ _ (by omega)).trans h1, h2⟩, ((Below.refl _ w).alloc (Nat.le_refl _) _).alloc (by simp) _⟩
set_option maxHeartbeats 4000000 in
theorem rremove_any (v : Value) (l : List Ent) (next : Int) (s : ByteArray) (w : World) (hv : AtW EE w v l) (hs : ∀ x ∈ l, x.1.size ≤ maxLen) (hn : s.size ≤ maxLen) :
    Calls Tryz.prog 94 #[VD v next, .string s] w fun e w' => ∃ u, e = .returned (.tuple #[VD u (if Fo.findErr l next s = 0 then next else 0), .int .i64 (Fo.findErr l next s)]) ∧
      At EE (fun b => w.heap.size ≤ b) w' u (if Fo.findErr l next s = 0 then l.eraseIdx (Fo.plc l next s).toNat else []) ∧ Below w.heap.size w w' := by
  have hv0 := hv
  obtain ⟨ao, cap, rfl, hm, hx⟩ := hv0.open
  clear hv0
  unfold maxLen at hm
  obtain ⟨m, hlm⟩ : ∃ m, l.length = m := ⟨_, rfl⟩
  rw [hlm] at hm hv ⊢
  have HLM : Hid (l.length = m) := hlm
  clear hlm
  obtain ⟨W, hW⟩ : ∃ W, W = (w.alloc (BF (.slice ao m cap) next)).alloc BZF := ⟨_, rfl⟩
  obtain ⟨HX0, HB0⟩ : Hid (Bx2 w.heap.size (.slice ao m cap) next W) ∧ Hid (Below w.heap.size w W) := by rw [hW]; exact bx2_new w _ next
  have HV : Hid (AtW EE W (.slice ao m cap) l) := hv.up HB0.out
  have HS : Hid (∀ x ∈ l, x.1.size ≤ maxLen) := hs
  have HNN : Hid (s.size ≤ maxLen) := hn
  have HXX : Hid (∀ i x, l[i]? = some x → ∃ b off, ao = some ⟨b, off, none⟩ ∧ True ∧ b < w.heap.size ∧ ∀ k u, (EE.cells x)[k]? = some u → w.cell? ⟨b, off + (i * EE.sz + k), none⟩ = some u) := hx
  obtain ⟨⟨x0, x1⟩, -⟩ := fold_of HX0.out.1
  clear hv hs hn hx
  rcases Fo.ask_or l next s with ⟨ha, hrt, -⟩ | ⟨ha, -⟩ | ⟨ha, -, -⟩
  · have HA : Hid (Fo.ask l next s = 0) := ha
    rcases Fo.at_or (Fo.called s) l with ⟨ht, -⟩ | ⟨k, x, ht, hxk, -, -⟩
    · have HT : Hid (Fo.at' (Fo.called s) l = -1) := ht
      have hE : Fo.findErr l next s = 402 := (Fo.findErr_miss ha ht).1
      rw [hE, if_neg (by decide), if_neg (by decide)]
      clear ha ht hrt hE
      go_enter Tryz.func94, Tryz.ntmps94
      go_wp2_with fail
      rw [← hW]
      refine (asked_any _ l next s _ HV.out HS.out HNN.out).mono ?_
      rintro e w1 ⟨rfl, hb⟩
      rw [HA.out]
      have HB1 : Hid (Below w.heap.size w w1) := HB0.out.trans (hb.mono HB0.out.size)
      have HX1 : Hid (Bx2 w.heap.size (.slice ao m cap) next w1) := HX0.out.step hb
      have HV1 : Hid (AtW EE w1 (.slice ao m cap) l) := HV.out.up hb
      clear hb hW x0 x1
      obtain ⟨⟨y0, y1⟩, -⟩ := fold_of HX1.out.1
      go_wp2_with fail
      refine (rplace_any _ l s _ HV1.out).mono ?_
      rintro e w2 ⟨rfl, hb⟩
      rw [HT.out]
      have HB2 : Hid (Below w.heap.size w w2) := HB1.out.trans (hb.mono HB1.out.size)
      have HX2 : Hid (Bx2 w.heap.size (.slice ao m cap) next w2) := HX1.out.step hb
      have HV2 : Hid (AtW EE w2 (.slice ao m cap) l) := HV1.out.up hb
      clear hb y0 y1
      obtain ⟨⟨z0, z1⟩, -⟩ := fold_of HX2.out.1
      obtain ⟨⟨r0, r1⟩, rf⟩ := fold_of (v := .slice none 0 0) (n := 0) HX2.out.2
      go_wp2
      (try simp only [Exit.inBlock, Exit.then])
      refine bodyPost_ret (v := .tuple #[VD (.slice none 0 0) 0, .int .i64 402]) ?_ rfl ⟨.slice none 0 0, rfl, At.nil, ?_⟩
      · rw [results_cell_tmp rfl]
        go_simp
      · repeat (refine Below.setCell ?_ (by simp) _)
        exact HB2.out
    · have HT : Hid (Fo.at' (Fo.called s) l = k) := ht
      have hE := Fo.findErr_hit ha ht
      have hka := (List.getElem?_eq_some_iff.1 hxk).1
      rw [hE.1, hE.2, if_pos rfl, if_pos rfl, show ((k : Int)).toNat = k from by omega]
      have hm40 : m ≤ 1099511627776 := by
        have := Fo.right_len hrt
        have := hrt.1.2
        have := HLM.out
        omega
      rw [HLM.out] at hka
      obtain ⟨j0, hj, hy0, hy1, hy2⟩ := info_parts finfoE
      clear ha ht hrt hE hxk
      go_enter Tryz.func94, Tryz.ntmps94
      go_wp2_with fail
      rw [← hW]
      refine (asked_any _ l next s _ HV.out HS.out HNN.out).mono ?_
      rintro e w1 ⟨rfl, hb⟩
      rw [HA.out]
      have HB1 : Hid (Below w.heap.size w w1) := HB0.out.trans (hb.mono HB0.out.size)
      have HX1 : Hid (Bx2 w.heap.size (.slice ao m cap) next w1) := HX0.out.step hb
      have HV1 : Hid (AtW EE w1 (.slice ao m cap) l) := HV.out.up hb
      clear hb hW x0 x1
      obtain ⟨⟨y0, y1⟩, -⟩ := fold_of HX1.out.1
      go_wp2_with fail
      refine (rplace_any _ l s _ HV1.out).mono ?_
      rintro e w2 ⟨rfl, hb⟩
      rw [HT.out]
      have HB2 : Hid (Below w.heap.size w w2) := HB1.out.trans (hb.mono HB1.out.size)
      have HX2 : Hid (Bx2 w.heap.size (.slice ao m cap) next w2) := HX1.out.step hb
      have HV2 : Hid (AtW EE w2 (.slice ao m cap) l) := HV1.out.up hb
      clear hb y0 y1
      obtain ⟨⟨z0, z1⟩, -⟩ := fold_of HX2.out.1
      have hs2 := HB2.out.size
      have ho2 := HX2.out.off
      go_wp2
      go_loopw [8, 31] (fun u i wr => ∃ (q : Nat) (pp : Option Addr) (jj qq : Nat), q ≤ m ∧ i = .int .i64 q ∧ u = .slice pp jj qq ∧ Hid (Row EE wr w2.heap.size 69 (.slice pp jj qq) ((l.take q).eraseIdx k)) ∧ Hid (Below w2.heap.size w2 wr)) (fun _ i _ => m - (intOf i).toNat)
      case atStart => exact ⟨0, none, 0, 0, Nat.zero_le _, rfl, rfl, by rw [List.take_zero, List.eraseIdx_nil]; exact Row.nil _ _ _ _, Below.refl _ _⟩
      case round =>
        obtain ⟨q, pp, jj, qq, hq, rfl, rfl, HR, HB⟩ := hrel
        have hsz := HB.out.size
        have HB3 : Hid (Below w.heap.size w wr) := HB2.out.trans (HB.out.mono HB2.out.size)
        by_cases hlt : q < m
        · obtain ⟨x, hxk⟩ : ∃ x, l[q]? = some x := ⟨_, List.getElem?_eq_getElem (by rw [HLM.out]; exact hlt)⟩
          have HXK : Hid (l[q]? = some x) := hxk
          obtain ⟨b2, off, rfl, -, hB, hcx⟩ := HXX.out q x hxk
          have a := fun j u hj => (HB3.out.cell (p := ⟨b2, off + (q * EE.sz + j), none⟩) hB).trans (hcx j u hj)
          have c0 : wr.cell? ⟨b2, off + q * 4, none⟩ = some (.string x.1) := a 0 _ rfl
          have c1 : wr.cell? ⟨b2, off + q * 4 + 1, none⟩ = some (.int .i64 x.2.1) := a 1 _ rfl
          have c2 : wr.cell? ⟨b2, off + q * 4 + 2, none⟩ = some (.int .i64 x.2.2.1) := a 2 _ rfl
          have c3 : wr.cell? ⟨b2, off + q * 4 + 3, none⟩ = some (.int .i64 x.2.2.2) := a 3 _ rfl
          clear a hcx hxk
          have hlt' : (q : Int) < (m : Int) := by omega
          by_cases g : q = k
          · subst g
            have HG : Hid ((l.take (q + 1)).eraseIdx q = (l.take q).eraseIdx q) := Fo.er_at HXK.out
            have HR2 : Hid (Row EE (wr.alloc (BE x)) w2.heap.size 69 (.slice pp jj qq) ((l.take q).eraseIdx q)) := HR.out.up ((Below.refl _ _).alloc (Nat.le_refl _) _)
            go_wp2
            go_roundw
            case rel => exact ⟨q + 1, pp, jj, qq, by omega, by go_num, rfl, by rw [HG.out]; exact HR2.out, HB.out.alloc hsz _⟩
            case measure => simp [intOf]; omega
          · have HG : Hid ((l.take (q + 1)).eraseIdx k = (l.take q).eraseIdx k ++ [x]) := Fo.er_in HXK.out g
            have g1 : ((q : Int) == (k : Int)) = false := by rw [beq_eq_false_iff_ne]; omega
            have g2 : ((q : Int) != (k : Int)) = true := by simp [bne, g1]
            have HLEN : Hid (((l.take q).eraseIdx k).length ≤ q) := Fo.er_len l q k
            have HR3 : Hid (Row EE ((wr.alloc (BE x)).alloc (BE x)) w2.heap.size 69 (.slice pp jj qq) ((l.take q).eraseIdx k)) := (HR.out.up ((Below.refl _ _).alloc (Nat.le_refl _) _)).up ((Below.refl _ _).alloc (Nat.le_refl _) _)
            have HB4 : Hid (Below w2.heap.size w2 ((wr.alloc (BE x)).alloc (BE x))) := (HB.out.alloc hsz _).alloc (by simp; omega) _
            have HO : Hid (AtW EE ((wr.alloc (BE x)).alloc (BE x)) (.slice (some ⟨wr.heap.size + 1, 0, none⟩) 1 1) [x]) := by
              have h2 := heap_alloc_new (wr.alloc (BE x)) (BE x)
              rw [show (wr.alloc (BE x)).heap.size = wr.heap.size + 1 by simp] at h2
              exact at_one h2
            clear g
            go_wp2_with (at_builtin; refine wpList_row _ rfl _ _ 63 rfl EE (fun _ => True) w2.heap.size 69 j0 _ 40 Tryz.underlying63 hj hy0 hy1 hy2 rfl _ ((l.take q).eraseIdx k) rfl HR3.out _ [x] rfl HO.out (by have := HLEN.out; unfold maxLen; simp only [List.length_cons, List.length_nil]; omega) (by have := HLEN.out; simp only [List.length_cons, List.length_nil]; omega) (by simp; omega) ?_; intro v7 w7 hrow7 hg7 hloc7)
            have HEND : Hid (Row EE w7 w2.heap.size 69 v7 ((l.take (q + 1)).eraseIdx k) ∧ Below w2.heap.size w2 w7) := ⟨by rw [HG.out]; exact hrow7, HB4.out.grown hg7 (by simp; omega) (fun k hk => (HR3.out.lt k hk).1)⟩
            clear hrow7 hg7 hloc7
            obtain ⟨p7, n7, c7, rfl⟩ := HEND.out.1.slice3
            go_wp2
            go_roundw
            case rel => exact ⟨q + 1, p7, n7, c7, by omega, by go_num, rfl, HEND.out.1, HEND.out.2⟩
            case measure => simp [intOf]; omega
        · obtain rfl : m = q := by omega
          have HX3 : Hid (Bx2 w.heap.size (.slice ao m cap) next wr) := HX2.out.step HB.out
          obtain ⟨⟨r0, r1⟩, rf⟩ := fold_of (v := .slice none 0 0) (n := 0) HX3.out.2
          obtain ⟨⟨y0, y1⟩, -⟩ := fold_of HX3.out.1
          have HEND : Hid (At EE (fun b => w2.heap.size ≤ b) wr (.slice pp jj qq) (l.eraseIdx k)) := by
            have := HR.out.at
            rw [← HLM.out, List.take_length] at this
            exact this
          go_wp2
          (try simp only [Exit.inBlock, Exit.then])
          refine bodyPost_ret (v := .tuple #[VD (.slice pp jj qq) next, .int .i64 0]) ?_ rfl ⟨.slice pp jj qq, rfl, ?_, ?_⟩
          · rw [results_cell_tmp rfl]
            go_simp
          · refine At.imp (S := fun b => w2.heap.size ≤ b) ?_ (fun b hb _ => by omega)
            repeat (refine At.setCellF ?_ (by simp; omega) _)
            exact HEND.out
          · repeat (refine Below.setCell ?_ (by simp) _)
            exact HB3.out
  · have HA : Hid (Fo.ask l next s = 4) := ha
    rw [(Fo.findErr_ask ha (by decide)).1, if_neg (by decide), if_neg (by decide)]
    clear ha
    go_enter Tryz.func94, Tryz.ntmps94
    go_wp2_with fail
    rw [← hW]
    refine (asked_any _ l next s _ HV.out HS.out HNN.out).mono ?_
    rintro e w1 ⟨rfl, hb⟩
    rw [HA.out]
    have HB1 : Hid (Below w.heap.size w w1) := HB0.out.trans (hb.mono HB0.out.size)
    have HX1 : Hid (Bx2 w.heap.size (.slice ao m cap) next w1) := HX0.out.step hb
    have HV1 : Hid (AtW EE w1 (.slice ao m cap) l) := HV.out.up hb
    clear hb hW x0 x1
    obtain ⟨⟨r0, r1⟩, rf⟩ := fold_of (v := .slice none 0 0) (n := 0) HX1.out.2
    go_wp2
    (try simp only [Exit.inBlock, Exit.then])
    refine bodyPost_ret (v := .tuple #[VD (.slice none 0 0) 0, .int .i64 4]) ?_ rfl ⟨.slice none 0 0, rfl, At.nil, ?_⟩
    · rw [results_cell_tmp rfl]
      go_simp
    · repeat (refine Below.setCell ?_ (by simp) _)
      exact HB1.out
  · have HA : Hid (Fo.ask l next s = 409) := ha
    rw [(Fo.findErr_ask ha (by decide)).1, if_neg (by decide), if_neg (by decide)]
    clear ha
    go_enter Tryz.func94, Tryz.ntmps94
    go_wp2_with fail
    rw [← hW]
    refine (asked_any _ l next s _ HV.out HS.out HNN.out).mono ?_
    rintro e w1 ⟨rfl, hb⟩
    rw [HA.out]
    have HB1 : Hid (Below w.heap.size w w1) := HB0.out.trans (hb.mono HB0.out.size)
    have HX1 : Hid (Bx2 w.heap.size (.slice ao m cap) next w1) := HX0.out.step hb
    have HV1 : Hid (AtW EE w1 (.slice ao m cap) l) := HV.out.up hb
    clear hb hW x0 x1
    obtain ⟨⟨r0, r1⟩, rf⟩ := fold_of (v := .slice none 0 0) (n := 0) HX1.out.2
    go_wp2
    (try simp only [Exit.inBlock, Exit.then])
    refine bodyPost_ret (v := .tuple #[VD (.slice none 0 0) 0, .int .i64 409]) ?_ rfl ⟨.slice none 0 0, rfl, At.nil, ?_⟩
    · rw [results_cell_tmp rfl]
      go_simp
    · repeat (refine Below.setCell ?_ (by simp) _)
      exact HB1.out
end Go.Proofs.YtacghcoikekfeaaGreat
/- SRef6 -/
namespace Go.Proofs.YtacghcoikekfeaaGreat
open Go.ChangeShapes Go.WideShapes Go.ChangeAt Go.RowKit Go.Deep It
set_option maxRecDepth 100000
/-- A table in a row of its own, in block g; the inodes' lists lie elsewhere. -/
def Cp (T : Nat → Prop) (B : Nat) (w : World) (g n cap : Nat) (L : List Rw) : Prop := Row EI w B 65 (.slice (some ⟨g, 0, none⟩) n cap) L ∧ ∀ y ∈ L, Good (fun b => b ≠ g ∧ T b) w y
theorem Cp.tab {T : Nat → Prop} {B : Nat} {w : World} {g n cap : Nat} {L : List Rw} (h : Cp T B w g n cap L) : TabAt (fun _ => True) w (.slice (some ⟨g, 0, none⟩) n cap) L := ⟨h.1.at.wide, fun y hy => (h.2 y hy).imp fun _ _ _ => trivial⟩
theorem Cp.put {T : Nat → Prop} {B : Nat} {w : World} {g n cap : Nat} {L : List Rw} (h : Cp T B w g n cap L) {k j : Nat} {x x' : Rw} {u : Value} (hk : L[k]? = some x) (hj : j < 8) (hc : EI.cells x' = (EI.cells x).set j u) (hg : Good (fun b => b ≠ g ∧ T b) w x') : Cp T B (w.setCell ⟨g, k * 8 + j, none⟩ u) g n cap (L.set k x') := by
  refine ⟨h.1.cell hk hj hc, fun y hy => Good.setCell ?_ (by simp) _⟩
  rcases List.mem_or_eq_of_mem_set hy with h1 | rfl
  · exact h.2 y h1
  · exact hg
theorem Cp.cells {T : Nat → Prop} {B : Nat} {w : World} {g n cap : Nat} {L : List Rw} (h : Cp T B w g n cap L) {k : Nat} {x : Rw} (hk : L[k]? = some x) : eight w g (k * 8) x ∧ (∀ j, w.frozen? ⟨g, j, none⟩ = false) ∧ g < w.heap.size ∧ n = L.length ∧ B ≤ g := by
  rcases h.1 with ⟨h1, _⟩ | ⟨g', cap', cur, hv, hB, hh, -⟩
  · cases h1
  · simp only [Value.slice.injEq, Option.some.injEq, Addr.mk.injEq] at hv
    obtain ⟨⟨rfl, -, -⟩, rfl, rfl⟩ := hv
    obtain ⟨ao, c, he, -, hx⟩ := h.tab.open
    simp only [Value.slice.injEq] at he
    obtain ⟨rfl, -, -⟩ := he
    obtain ⟨⟨b, off, he, -, h8⟩, -⟩ := hx k x hk
    simp only [Option.some.injEq, Addr.mk.injEq] at he
    obtain ⟨rfl, rfl, -⟩ := he
    rw [Nat.zero_add] at h8
    exact ⟨h8, fun j => by simp [World.frozen?, hh], (Array.getElem?_eq_some_iff.1 hh).1, rfl, hB⟩
/-- A copy, and the lists of its inodes. -/
theorem Cp.of {S T : Nat → Prop} {w w' : World} {v u : Value} {L : List Rw} (hv : TabAt S w v L) (hne : L ≠ []) (hr : Row EI w' w.heap.size 65 u L) (hb : Below w.heap.size w w') (hT : ∀ b, S b → T b) : ∃ g cap, u = .slice (some ⟨g, 0, none⟩) L.length cap ∧ w.heap.size ≤ g ∧ Cp T w.heap.size w' g L.length cap L := by
  have hr0 := hr
  rcases hr with ⟨_, h⟩ | ⟨g, cap, cur, rfl, hB, hh, -⟩
  · exact absurd h hne
  · exact ⟨g, cap, rfl, hB, hr0, fun y hy => (hv.2 y hy).keep hb.size fun b hS hl => ⟨hb.block b hl, by omega, hT b hS⟩⟩
theorem Cp.mono {T : Nat → Prop} {B C : Nat} {w : World} {g n cap : Nat} {L : List Rw} (h : Cp T B w g n cap L) (hB : C ≤ B) : Cp T C w g n cap L := by
  refine ⟨?_, h.2⟩
  rcases h.1 with h1 | ⟨g', cap', cur, hv, hb, hh⟩
  · exact .inl h1
  · exact .inr ⟨g', cap', cur, hv, Nat.le_trans hB hb, hh⟩
/-- A folder's entries, size and stamp, written. -/
theorem Cp.three {T : Nat → Prop} {B : Nat} {w : World} {g n cap : Nat} {L : List Rw} (h : Cp T B w g n cap L) {k : Nat} {x : Rw} (hk : L[k]? = some x) {p : Option Addr} {m c : Nat} {es : List Ent} (hu : At EE (fun b => b ≠ g ∧ T b) w (.slice p m c) es) (hr : At ER (fun b => b ≠ g ∧ T b) w (.slice x.rp x.rn x.rc) x.i.runs) (ho : okI x.i) (hl : es.length ≤ 3518437208883) (hm : m = es.length) (st : Int) :
    ∃ L', Cp T B (((w.setCell ⟨g, k * 8 + 6, none⟩ (.slice p m c)).setCell ⟨g, k * 8 + 3, none⟩ (.int .i64 m)).setCell ⟨g, k * 8 + 4, none⟩ (.int .i64 st)) g n cap L' ∧ pl L' = (pl L).set k (Sp.filled x.i es x.i.next st) := by
  subst hm
  have hlt := (List.getElem?_eq_some_iff.1 hk).1
  let x1 : Rw := ⟨⟨x.i.gen, x.i.kind, x.i.links, x.i.size, x.i.stamp, x.i.runs, es, x.i.next⟩, x.rp, x.rn, x.rc, p, es.length, c⟩
  let x2 : Rw := ⟨⟨x.i.gen, x.i.kind, x.i.links, es.length, x.i.stamp, x.i.runs, es, x.i.next⟩, x.rp, x.rn, x.rc, p, es.length, c⟩
  let x3 : Rw := ⟨Sp.filled x.i es x.i.next st, x.rp, x.rn, x.rc, p, es.length, c⟩
  have e1 : Good (fun b => b ≠ g ∧ T b) w x1 := ⟨hr, hu, ho.1, ho.2.1, hl⟩
  have e2 : Good (fun b => b ≠ g ∧ T b) w x2 := ⟨hr, hu, ho.1, ho.2.1, hl⟩
  have e3 : Good (fun b => b ≠ g ∧ T b) w x3 := ⟨hr, hu, ho.1, ho.2.1, hl⟩
  have f2 : Good (fun b => b ≠ g ∧ T b) (w.setCell ⟨g, k * 8 + 6, none⟩ (.slice p es.length c)) x2 := e2.setCell (by simp) _
  have f3 : Good (fun b => b ≠ g ∧ T b) (w.setCell ⟨g, k * 8 + 6, none⟩ (.slice p es.length c)) x3 := e3.setCell (by simp) _
  have g3 : Good (fun b => b ≠ g ∧ T b) ((w.setCell ⟨g, k * 8 + 6, none⟩ (.slice p es.length c)).setCell ⟨g, k * 8 + 3, none⟩ (.int .i64 es.length)) x3 := f3.setCell (by simp) _
  have h1 := h.put (k := k) (j := 6) (x' := x1) (u := .slice p es.length c) hk (by decide) rfl e1
  have h2 := h1.put (k := k) (j := 3) (x := x1) (x' := x2) (u := .int .i64 es.length) (by rw [List.getElem?_set_self hlt]) (by decide) rfl f2
  have h3 := h2.put (k := k) (j := 4) (x := x2) (x' := x3) (u := .int .i64 st) (by rw [List.getElem?_set_self (by simpa using hlt)]) (by decide) rfl g3
  refine ⟨_, h3, ?_⟩
  rw [List.set_set, List.set_set]
  show (L.set k x3).map Rw.i = _
  rw [List.map_set]
theorem setF {w : World} {A : Nat} {v u : Value} {b d : Int} (h : w.heap[A]? = some (BF v b)) : ((w.setCell ⟨A, 0, none⟩ u).setCell ⟨A, 1, none⟩ (.int .i64 d)).heap[A]? = some (BF u d) := by
  simp [World.setCell, Array.getElem?_modify, h]
theorem two_ofF {w : World} {B : Nat} {v : Value} {n : Int} (h : w.heap[B]? = some (BF v n)) : (w.cell? ⟨B, 0, none⟩ = some v ∧ w.cell? ⟨B, 1, none⟩ = some (.int .i64 n)) ∧ ∀ j, w.frozen? ⟨B, j, none⟩ = false := by
  refine ⟨⟨?_, ?_⟩, fun j => ?_⟩ <;> simp [World.cell?, World.frozen?, h]
set_option maxHeartbeats 2000000 in
theorem rless_any {S : Nat → Prop} (v : Value) (L : List Rw) (k : Nat) (st : Int) (s : ByteArray) (x : Rw) (w : World) (hv : TabAt S w v L) (hk : L[k]? = some x) (hn : ∀ e ∈ x.i.ents, e.1.size ≤ maxLen) (hs : s.size ≤ maxLen) (hf : Fo.findErr x.i.ents x.i.next s = 0) (hl : L.length ≤ 100000) :
    Calls Tryz.prog 59 #[v, .int .i64 k, .string s, .int .i64 st] w fun e w' => ∃ g cap L', e = .returned (.slice (some ⟨g, 0, none⟩) L.length cap) ∧ Cp (fun b => S b ∨ w.heap.size ≤ b) w.heap.size w' g L.length cap L' ∧ pl L' = (pl L).set k (Sp.filled x.i (x.i.ents.eraseIdx (Fo.plc x.i.ents x.i.next s).toNat) x.i.next st) ∧ Below w.heap.size w w' := by
  obtain ⟨es, hes⟩ : ∃ es, x.i.ents.eraseIdx (Fo.plc x.i.ents x.i.next s).toNat = es := ⟨_, rfl⟩
  have HV : Hid (TabAt S w v L) := hv
  obtain ⟨ao, cap, rfl, hm, hx⟩ := hv.open
  obtain ⟨⟨bb, off, rfl, hB, hc8⟩, hgd⟩ := hx k x hk
  have HX8 : Hid (∀ V, Below w.heap.size w V → eight V bb (off + k * 8) x) := fun V h => hc8.below h hB
  have HG : Hid (Good S w x) := hgd
  have HK : Hid (L[k]? = some x) := hk
  have HLN : Hid (L.length ≤ 100000) := hl
  have hlen : es.length ≤ 3518437208883 := by rw [← hes]; exact Nat.le_trans (List.length_eraseIdx_le ..) hgd.2.2.2.2
  have HLE : Hid (es.length ≤ 3518437208883) := hlen
  have hkl : (k : Int) < (L.length : Int) := by have := (List.getElem?_eq_some_iff.1 hk).1; omega
  have HCF : Hid (∀ V : World, Below w.heap.size w V → Calls Tryz.prog 94 #[.agg #[.slice x.ep x.en x.ec, .int .i64 x.i.next], .string s] V fun e w' => ∃ p n c, e = .returned (.tuple #[.agg #[.slice p n c, .int .i64 x.i.next], .int .i64 0]) ∧ Hid (n = es.length) ∧ At EE (fun b => V.heap.size ≤ b) w' (.slice p n c) es ∧ Below V.heap.size V w') := fun V h => by
    refine (rremove_any _ x.i.ents x.i.next s V (hgd.up h).2.1.wide hn hs).mono ?_
    rintro e w' ⟨u, he, hu, hb⟩
    rw [hf, if_pos rfl] at he
    rw [hf, if_pos rfl, hes] at hu
    obtain ⟨p, c, rfl, -, -⟩ := hu.open
    exact ⟨p, _, c, he, rfl, hu, hb⟩
  rw [hes]
  have HSG : Hid (∀ V : World, Below w.heap.size w V → V.cell? ⟨bb, off + k * 8 + 6, none⟩ = some (.slice x.ep x.en x.ec) ∧ V.cell? ⟨bb, off + k * 8 + 7, none⟩ = some (.int .i64 x.i.next)) := fun V h => by
    obtain ⟨r0, r1, r2, r3, r4, r5, r6, r7⟩ := HX8.out _ h
    exact ⟨r6, r7⟩
  clear hv hx hc8 hgd hk hn hs hf hl hlen hes hm
  go_enter Tryz.func59, Tryz.ntmps59
  go_wp2_with fail
  go_region_held3 (fun V => V.cell? ⟨bb, off + k * 8 + 6, none⟩ = some (.slice x.ep x.en x.ec) ∧ V.cell? ⟨bb, off + k * 8 + 7, none⟩ = some (.int .i64 x.i.next)) (first | exact HSG.out _ (by (repeat (first | with_reducible assumption | exact Below.refl _ _ | refine bel_drew ?_ | refine Below.setCell ?_ (by first | exact Nat.le_refl _ | assumption) _ | refine Below.alloc ?_ (by first | exact Nat.le_refl _ | assumption) _)))) (first
    | (go_at_call 94; refine (HCF.out _ (by (repeat (first | with_reducible assumption | exact Below.refl _ _ | refine bel_drew ?_ | refine Below.setCell ?_ (by first | exact Nat.le_refl _ | assumption) _ | refine Below.alloc ?_ (by first | exact Nat.le_refl _ | assumption) _)))).mono ?_; rintro e w3 ⟨p3, n3, c3, rfl, hn3, hu3, hb3⟩; (first | (have hz3 : w3.heap[w.heap.size]? = some BZF := (hb3.block _ (by simp)).trans (heap_alloc_new w.drew BZF); have hb33 : Below w.heap.size w w3 := ((bel_drew (Below.refl _ _)).alloc (Nat.le_refl _) BZF).trans (hb3.mono (by simp)); have hl3 := (Array.getElem?_eq_some_iff.1 hz3).1; obtain ⟨⟨f0, f1⟩, ff⟩ := two_ofF (v := .slice none 0 0) (n := 0) hz3) | (have hz3 : w3.heap[w.heap.size]? = some BZF := (hb3.block _ (by simp)).trans (heap_alloc_new w BZF); have hb33 : Below w.heap.size w w3 := ((Below.refl _ _).alloc (Nat.le_refl _) BZF).trans ((undrew hb3).mono (by simp)); have hl3 := (Array.getElem?_eq_some_iff.1 hz3).1; obtain ⟨⟨f0, f1⟩, ff⟩ := two_ofF (v := .slice none 0 0) (n := 0) hz3) | (have hb33 : Below w.heap.size w w3 := undrew hb3)); have hs3 : w.heap.size ≤ w3.heap.size := hb33.size))
  all_goals first
      | (obtain ⟨W5, hW5⟩ : ∃ W5, W5 = w3.alloc (BF (.slice p3 n3 c3) x.i.next) := ⟨_, rfl⟩
         rw [← hW5]
         obtain ⟨b9, hb9⟩ : ∃ b9, b9 = w3.heap.size := ⟨_, rfl⟩
         have HX5 : Hid (W5.heap[b9]? = some (BF (.slice p3 n3 c3) x.i.next)) := by rw [hW5, hb9]; exact heap_alloc_new _ _
         have HBW : Hid (Below w.heap.size w W5) := by rw [hW5]; exact hb33.alloc hs3 _
         have HU5 : Hid (At EE (fun b => w.heap.size ≤ b) W5 (.slice p3 n3 c3) es) := by rw [hW5]; exact (hu3.up ((Below.refl _ _).alloc (Nat.le_refl _) _)).imp fun b hb _ => by first | exact hb | (simp at hb; omega)
         rw [← hb9]
         clear hb9 hW5)
      | (obtain ⟨W5, hW5⟩ : ∃ W5, W5 = (w3.setCell ⟨w.heap.size, 0, none⟩ (.slice p3 n3 c3)).setCell ⟨w.heap.size, 1, none⟩ (.int .i64 x.i.next) := ⟨_, rfl⟩
         rw [← hW5]
         obtain ⟨b9, hb9⟩ : ∃ b9, b9 = w.heap.size := ⟨_, rfl⟩
         have HX5 : Hid (W5.heap[b9]? = some (BF (.slice p3 n3 c3) x.i.next)) := by rw [hW5, hb9]; exact setF hz3
         have HBW : Hid (Below w.heap.size w W5) := by
           rw [hW5]
           exact Below.setCell (p := ⟨w.heap.size, 1, none⟩) (Below.setCell (p := ⟨w.heap.size, 0, none⟩) hb33 (Nat.le_refl _) _) (Nat.le_refl _) _
         have HU5 : Hid (At EE (fun b => w.heap.size ≤ b) W5 (.slice p3 n3 c3) es) := by
           rw [hW5]
           exact (At.setCell (S := fun b => w.heap.size ≤ b ∧ b ≠ w.heap.size) (At.setCell (hu3.imp fun b hb _ => by simp at hb; omega) (by simp) _) (by simp) _).imp fun b hb _ => hb.1
         rw [← hb9]
         clear hb9 hW5 f0 f1 ff)
  all_goals
    (try simp only [Exit.then])
    have HBL : Hid (b9 < W5.heap.size) := (Array.getElem?_eq_some_iff.1 HX5.out).1
    have HN3 : Hid (n3 = es.length) := hn3.out
    clear hb3 hb33 hu3 HCF HSG hn3
    go_wp2_with fail
    refine (rcopied_any _ L _ (HV.out.up HBW.out) HLN.out).mono ?_
    rintro e w6 ⟨u6, rfl, hrow, hb6⟩
    obtain ⟨g, cap6, rfl, hBg, hcp⟩ := Cp.of (T := (fun b => S b ∨ w.heap.size ≤ b)) (HV.out.up HBW.out) (fun h => by have := HK.out; rw [h] at this; simp at this) hrow hb6 (fun b h => .inl h)
    have HB6 : Hid (Below w.heap.size w w6) := HBW.out.trans (hb6.mono HBW.out.size)
    have HX6 : Hid (w6.heap[b9]? = some (BF (.slice p3 n3 c3) x.i.next)) := (hb6.block _ HBL.out).trans HX5.out
    have HU6 : Hid (At EE (fun b => b ≠ g ∧ (S b ∨ w.heap.size ≤ b)) w6 (.slice p3 n3 c3) es) := HU5.out.keep hb6.size fun b hb hl => ⟨hb6.block b hl, by omega, .inr hb⟩
    have HG6 : Hid (At ER (fun b => b ≠ g ∧ (S b ∨ w.heap.size ≤ b)) w6 (.slice x.rp x.rn x.rc) x.i.runs ∧ okI x.i) := ⟨(hcp.2 x (List.mem_of_getElem? HK.out)).1, HG.out.2.2⟩
    have HCP : Hid (Cp (fun b => S b ∨ w.heap.size ≤ b) W5.heap.size w6 g L.length cap6 L) := hcp
    have hbg : b9 ≠ g := by have := HBL.out; omega
    have hwg : w.heap.size ≤ g := Nat.le_trans HBW.out.size hBg
    obtain ⟨⟨t0, t1, t2, t3, t4, t5, t6, t7⟩, tf, tl, -, -⟩ := hcp.cells HK.out
    obtain ⟨⟨f0, f1⟩, ff⟩ := two_ofF HX6.out
    clear hb6 hcp hrow hBg
    go_wp2
    obtain ⟨L', hL', hp'⟩ := Cp.three HCP.out HK.out HU6.out HG6.out.1 HG6.out.2 HLE.out HN3.out st
    have hbl : Below w.heap.size w (((w6.setCell ⟨g, k * 8 + 6, none⟩ (.slice p3 n3 c3)).setCell ⟨g, k * 8 + 3, none⟩ (.int .i64 n3)).setCell ⟨g, k * 8 + 4, none⟩ (.int .i64 st)) := Below.setCell (p := ⟨g, k * 8 + 4, none⟩) (Below.setCell (p := ⟨g, k * 8 + 3, none⟩) (Below.setCell (p := ⟨g, k * 8 + 6, none⟩) HB6.out hwg _) hwg _) hwg _
    refine bodyPost_ret (v := .slice (some ⟨g, 0, none⟩) L.length cap6) (by simp [results, Tryz.results59, go_sem]) rfl ⟨g, cap6, L', rfl, hL'.mono HBW.out.size, hp', hbl⟩
end Go.Proofs.YtacghcoikekfeaaGreat
/- SRef7 -/
namespace Go.Proofs.YtacghcoikekfeaaGreat
open Go.ChangeShapes Go.WideShapes Go.ChangeAt Go.RowKit Go.Deep It
set_option maxRecDepth 100000
/-- A folder's entries, next number, size and stamp, written. -/
theorem Cp.four {T : Nat → Prop} {B : Nat} {w : World} {g n cap : Nat} {L : List Rw} (h : Cp T B w g n cap L) {k : Nat} {x : Rw} (hk : L[k]? = some x) {p : Option Addr} {m c : Nat} {es : List Ent} (hu : At EE (fun b => b ≠ g ∧ T b) w (.slice p m c) es) (hr : At ER (fun b => b ≠ g ∧ T b) w (.slice x.rp x.rn x.rc) x.i.runs) (ho : okI x.i) (hl : es.length ≤ 3518437208883) (hm : m = es.length) (nx st : Int) :
    ∃ L', Cp T B ((((w.setCell ⟨g, k * 8 + 6, none⟩ (.slice p m c)).setCell ⟨g, k * 8 + 7, none⟩ (.int .i64 nx)).setCell ⟨g, k * 8 + 3, none⟩ (.int .i64 m)).setCell ⟨g, k * 8 + 4, none⟩ (.int .i64 st)) g n cap L' ∧ pl L' = (pl L).set k (Sp.filled x.i es nx st) := by
  subst hm
  have hlt := (List.getElem?_eq_some_iff.1 hk).1
  let x1 : Rw := ⟨⟨x.i.gen, x.i.kind, x.i.links, x.i.size, x.i.stamp, x.i.runs, es, x.i.next⟩, x.rp, x.rn, x.rc, p, es.length, c⟩
  let x0 : Rw := ⟨⟨x.i.gen, x.i.kind, x.i.links, x.i.size, x.i.stamp, x.i.runs, es, nx⟩, x.rp, x.rn, x.rc, p, es.length, c⟩
  let x2 : Rw := ⟨⟨x.i.gen, x.i.kind, x.i.links, es.length, x.i.stamp, x.i.runs, es, nx⟩, x.rp, x.rn, x.rc, p, es.length, c⟩
  let x3 : Rw := ⟨Sp.filled x.i es nx st, x.rp, x.rn, x.rc, p, es.length, c⟩
  have e1 : Good (fun b => b ≠ g ∧ T b) w x1 := ⟨hr, hu, ho.1, ho.2.1, hl⟩
  have e0 : Good (fun b => b ≠ g ∧ T b) w x0 := ⟨hr, hu, ho.1, ho.2.1, hl⟩
  have e2 : Good (fun b => b ≠ g ∧ T b) w x2 := ⟨hr, hu, ho.1, ho.2.1, hl⟩
  have e3 : Good (fun b => b ≠ g ∧ T b) w x3 := ⟨hr, hu, ho.1, ho.2.1, hl⟩
  have h1 := h.put (k := k) (j := 6) (x' := x1) (u := .slice p es.length c) hk (by decide) rfl e1
  have h0 := h1.put (k := k) (j := 7) (x := x1) (x' := x0) (u := .int .i64 nx) (by rw [List.getElem?_set_self hlt]) (by decide) rfl (e0.setCell (p := ⟨g, k * 8 + 6, none⟩) (by simp) _)
  have h2 := h0.put (k := k) (j := 3) (x := x0) (x' := x2) (u := .int .i64 es.length) (by rw [List.getElem?_set_self (by simpa using hlt)]) (by decide) rfl ((e2.setCell (p := ⟨g, k * 8 + 6, none⟩) (by simp) _).setCell (p := ⟨g, k * 8 + 7, none⟩) (by simp) _)
  have h3 := h2.put (k := k) (j := 4) (x := x2) (x' := x3) (u := .int .i64 st) (by rw [List.getElem?_set_self (by simpa using hlt)]) (by decide) rfl (((e3.setCell (p := ⟨g, k * 8 + 6, none⟩) (by simp) _).setCell (p := ⟨g, k * 8 + 7, none⟩) (by simp) _).setCell (p := ⟨g, k * 8 + 3, none⟩) (by simp) _)
  refine ⟨_, h3, ?_⟩
  rw [List.set_set, List.set_set, List.set_set]
  show (L.set k x3).map Rw.i = _
  rw [List.map_set]
set_option maxHeartbeats 2000000 in
theorem rmore_any {S : Nat → Prop} (v : Value) (L : List Rw) (k : Nat) (no gen st : Int) (s : ByteArray) (x : Rw) (w : World) (hv : TabAt S w v L) (hk : L[k]? = some x) (hn : ∀ e ∈ x.i.ents, e.1.size ≤ maxLen) (hs : s.size ≤ maxLen) (hf : Fo.addErr x.i.ents x.i.next s no gen = 0) (hl : L.length ≤ 100000) (hle : x.i.ents.length ≤ 1000000) :
    Calls Tryz.prog 51 #[v, .int .i64 k, .string s, .agg #[.int .i64 no, .int .i64 gen], .int .i64 st] w fun e w' => ∃ g cap L', e = .returned (.tuple #[.slice (some ⟨g, 0, none⟩) L.length cap, .int .i64 0]) ∧ Cp (fun b => S b ∨ w.heap.size ≤ b) w.heap.size w' g L.length cap L' ∧ pl L' = (pl L).set k (Sp.filled x.i (x.i.ents ++ [(s, x.i.next + 1, no, gen)]) (x.i.next + 1) st) ∧ Below w.heap.size w w' := by
  have HV : Hid (TabAt S w v L) := hv
  obtain ⟨ao, cap, rfl, hm, hx⟩ := hv.open
  obtain ⟨⟨bb, off, rfl, hB, hc8⟩, hgd⟩ := hx k x hk
  have HX8 : Hid (∀ V, Below w.heap.size w V → eight V bb (off + k * 8) x) := fun V h => hc8.below h hB
  have HG : Hid (Good S w x) := hgd
  have HK : Hid (L[k]? = some x) := hk
  have hkl : (k : Int) < (L.length : Int) := by have := (List.getElem?_eq_some_iff.1 hk).1; omega
  obtain ⟨es, hes⟩ : ∃ es, x.i.ents ++ [(s, x.i.next + 1, no, gen)] = es := ⟨_, rfl⟩
  obtain ⟨nx, hnx⟩ : ∃ nx, x.i.next + 1 = nx := ⟨_, rfl⟩
  obtain ⟨ae, hae⟩ : ∃ ae : Int, ae = 0 := ⟨_, rfl⟩
  have HLN : Hid (L.length ≤ 100000) := hl
  have HLE : Hid (es.length ≤ 3518437208883) := by rw [← hes]; show (x.i.ents ++ _).length ≤ _; simp; omega
  have HCF : Hid (∀ V : World, Below w.heap.size w V → Calls Tryz.prog 88 #[.agg #[.slice x.ep x.en x.ec, .int .i64 x.i.next], .string s, .agg #[.int .i64 no, .int .i64 gen]] V fun e w' => ∃ p n c, e = .returned (.tuple #[.agg #[.slice p n c, .int .i64 nx], .int .i64 ae]) ∧ Hid (n = es.length) ∧ At EE (fun b => V.heap.size ≤ b) w' (.slice p n c) es ∧ Below V.heap.size V w') := fun V h => by
    refine (radd_any _ x.i.ents x.i.next s no gen V (hgd.up h).2.1.wide hn hs).mono ?_
    rintro e w' ⟨u, he, hu, hb⟩
    rw [hf, if_pos rfl, hnx] at he
    rw [hf, if_pos rfl, hes] at hu
    rw [hae]
    obtain ⟨p, c, rfl, -, -⟩ := hu.open
    exact ⟨p, _, c, he, rfl, hu, hb⟩
  rw [hes, hnx]
  subst hae
  obtain ⟨W, hW⟩ : ∃ W, W = w.alloc (BH no gen) := ⟨_, rfl⟩
  have HB0 : Hid (Below w.heap.size w W) := by show Below w.heap.size w W; rw [hW]; exact (Below.refl _ w).alloc (Nat.le_refl _) _
  have HA0 : Hid (W.heap[w.heap.size]? = some (BH no gen)) := by show W.heap[w.heap.size]? = _; rw [hW]; exact heap_alloc_new _ _
  have hws : w.heap.size < W.heap.size := by rw [hW]; simp
  have HSG : Hid (∀ V : World, Below W.heap.size W V → V.cell? ⟨bb, off + k * 8 + 6, none⟩ = some (.slice x.ep x.en x.ec) ∧ V.cell? ⟨bb, off + k * 8 + 7, none⟩ = some (.int .i64 x.i.next) ∧ V.cell? ⟨w.heap.size, 0, none⟩ = some (.int .i64 no) ∧ V.cell? ⟨w.heap.size, 1, none⟩ = some (.int .i64 gen)) := fun V h => by
    obtain ⟨r0, r1, r2, r3, r4, r5, r6, r7⟩ := HX8.out _ (HB0.out.trans (h.mono HB0.out.size))
    obtain ⟨⟨a0, a1⟩, _⟩ := two_of HA0.out
    exact ⟨r6, r7, cell_step a0 h, cell_step a1 h⟩
  have HCW : Hid (∀ V : World, Below W.heap.size W V → Calls Tryz.prog 88 #[.agg #[.slice x.ep x.en x.ec, .int .i64 x.i.next], .string s, .agg #[.int .i64 no, .int .i64 gen]] V fun e w' => ∃ p n c, e = .returned (.tuple #[.agg #[.slice p n c, .int .i64 nx], .int .i64 0]) ∧ Hid (n = es.length) ∧ At EE (fun b => V.heap.size ≤ b) w' (.slice p n c) es ∧ Below V.heap.size V w') := fun V h => HCF.out V (HB0.out.trans (h.mono HB0.out.size))
  clear hv hx hc8 hgd hk hn hs hf hes hnx hm HCF hl hle
  go_enter Tryz.func51, Tryz.ntmps51
  go_wp2_with fail
  rw [← hW]
  clear hW
  go_region_held3 (fun V => V.cell? ⟨bb, off + k * 8 + 6, none⟩ = some (.slice x.ep x.en x.ec) ∧ V.cell? ⟨bb, off + k * 8 + 7, none⟩ = some (.int .i64 x.i.next) ∧ V.cell? ⟨w.heap.size, 0, none⟩ = some (.int .i64 no) ∧ V.cell? ⟨w.heap.size, 1, none⟩ = some (.int .i64 gen)) (first | exact HSG.out _ (by (repeat (first | with_reducible assumption | exact Below.refl _ _ | refine bel_drew ?_ | refine Below.setCell ?_ (by first | exact Nat.le_refl _ | assumption) _ | refine Below.alloc ?_ (by first | exact Nat.le_refl _ | assumption) _)))) (first
    | (go_at_call 88; refine (HCW.out _ (by (repeat (first | with_reducible assumption | exact Below.refl _ _ | refine bel_drew ?_ | refine Below.setCell ?_ (by first | exact Nat.le_refl _ | assumption) _ | refine Below.alloc ?_ (by first | exact Nat.le_refl _ | assumption) _)))).mono ?_; rintro e w3 ⟨p3, n3, c3, rfl, hn3, hu3, hb3⟩; (first | (have hz3 : w3.heap[W.heap.size]? = some BZF := (hb3.block _ (by simp)).trans (heap_alloc_new W.drew BZF); have hb33 : Below W.heap.size W w3 := ((bel_drew (Below.refl _ _)).alloc (Nat.le_refl _) BZF).trans (hb3.mono (by simp)); have hl3 := (Array.getElem?_eq_some_iff.1 hz3).1; obtain ⟨⟨f0, f1⟩, ff⟩ := two_ofF (v := .slice none 0 0) (n := 0) hz3) | (have hz3 : w3.heap[W.heap.size]? = some BZF := (hb3.block _ (by simp)).trans (heap_alloc_new W BZF); have hb33 : Below W.heap.size W w3 := ((Below.refl _ _).alloc (Nat.le_refl _) BZF).trans ((undrew hb3).mono (by simp)); have hl3 := (Array.getElem?_eq_some_iff.1 hz3).1; obtain ⟨⟨f0, f1⟩, ff⟩ := two_ofF (v := .slice none 0 0) (n := 0) hz3) | (have hb33 : Below W.heap.size W w3 := undrew hb3)); have hs3 : W.heap.size ≤ w3.heap.size := hb33.size))
  all_goals first
      | (obtain ⟨W5, hW5⟩ : ∃ W5, W5 = w3.alloc (BF (.slice p3 n3 c3) nx) := ⟨_, rfl⟩
         rw [← hW5]
         obtain ⟨b9, hb9⟩ : ∃ b9, b9 = w3.heap.size := ⟨_, rfl⟩
         have HX5 : Hid (W5.heap[b9]? = some (BF (.slice p3 n3 c3) nx)) := by rw [hW5, hb9]; exact heap_alloc_new _ _
         have HBX : Hid (Below W.heap.size W W5) := by rw [hW5]; exact hb33.alloc hs3 _
         have HU5 : Hid (At EE (fun b => w.heap.size ≤ b) W5 (.slice p3 n3 c3) es) := by rw [hW5]; exact (hu3.up ((Below.refl _ _).alloc (Nat.le_refl _) _)).imp fun b hb _ => by first | exact hb | (simp at hb; omega)
         rw [← hb9]
         clear hb9 hW5)
      | (obtain ⟨W5, hW5⟩ : ∃ W5, W5 = (w3.setCell ⟨W.heap.size, 0, none⟩ (.slice p3 n3 c3)).setCell ⟨W.heap.size, 1, none⟩ (.int .i64 nx) := ⟨_, rfl⟩
         rw [← hW5]
         obtain ⟨b9, hb9⟩ : ∃ b9, b9 = W.heap.size := ⟨_, rfl⟩
         have HX5 : Hid (W5.heap[b9]? = some (BF (.slice p3 n3 c3) nx)) := by rw [hW5, hb9]; exact setF hz3
         have HBX : Hid (Below W.heap.size W W5) := by
           rw [hW5]
           exact Below.setCell (p := ⟨W.heap.size, 1, none⟩) (Below.setCell (p := ⟨W.heap.size, 0, none⟩) hb33 (Nat.le_refl _) _) (Nat.le_refl _) _
         have HU5 : Hid (At EE (fun b => w.heap.size ≤ b) W5 (.slice p3 n3 c3) es) := by
           rw [hW5]
           exact (At.setCell (S := fun b => w.heap.size ≤ b ∧ b ≠ W.heap.size) (At.setCell (hu3.imp fun b hb _ => by simp at hb; omega) (by simp) _) (by simp) _).imp fun b hb _ => hb.1
         rw [← hb9]
         clear hb9 hW5 f0 f1 ff)
  all_goals
    (try simp only [Exit.then])
    have HBW : Hid (Below w.heap.size w W5) := HB0.out.trans (HBX.out.mono HB0.out.size)
    have HBL : Hid (b9 < W5.heap.size) := (Array.getElem?_eq_some_iff.1 HX5.out).1
    have HN3 : Hid (n3 = es.length) := hn3.out
    clear hb3 hb33 hu3 HCW HSG hn3
    go_wp2_with fail
    refine (rcopied_any _ L _ (HV.out.up HBW.out) HLN.out).mono ?_
    rintro e w6 ⟨u6, rfl, hrow, hb6⟩
    obtain ⟨g, cap6, rfl, hBg, hcp⟩ := Cp.of (T := (fun b => S b ∨ w.heap.size ≤ b)) (HV.out.up HBW.out) (fun h => by have := HK.out; rw [h] at this; simp at this) hrow hb6 (fun b h => .inl h)
    have HB6 : Hid (Below w.heap.size w w6) := HBW.out.trans (hb6.mono HBW.out.size)
    have HX6 : Hid (w6.heap[b9]? = some (BF (.slice p3 n3 c3) nx)) := (hb6.block _ HBL.out).trans HX5.out
    have HU6 : Hid (At EE (fun b => b ≠ g ∧ (S b ∨ w.heap.size ≤ b)) w6 (.slice p3 n3 c3) es) := HU5.out.keep hb6.size fun b hb hl => ⟨hb6.block b hl, by omega, .inr hb⟩
    have HG6 : Hid (At ER (fun b => b ≠ g ∧ (S b ∨ w.heap.size ≤ b)) w6 (.slice x.rp x.rn x.rc) x.i.runs ∧ okI x.i) := ⟨(hcp.2 x (List.mem_of_getElem? HK.out)).1, HG.out.2.2⟩
    have HCP : Hid (Cp (fun b => S b ∨ w.heap.size ≤ b) W5.heap.size w6 g L.length cap6 L) := hcp
    have hbg : b9 ≠ g := by have := HBL.out; omega
    have hwg : w.heap.size ≤ g := Nat.le_trans HBW.out.size hBg
    obtain ⟨⟨t0, t1, t2, t3, t4, t5, t6, t7⟩, tf, tl, -, -⟩ := hcp.cells HK.out
    obtain ⟨⟨f0, f1⟩, ff⟩ := two_ofF HX6.out
    clear hb6 hcp hrow hBg
    go_wp2
    obtain ⟨L', hL', hp'⟩ := Cp.four HCP.out HK.out HU6.out HG6.out.1 HG6.out.2 HLE.out HN3.out nx st
    have hbl : Below w.heap.size w ((((w6.setCell ⟨g, k * 8 + 6, none⟩ (.slice p3 n3 c3)).setCell ⟨g, k * 8 + 7, none⟩ (.int .i64 nx)).setCell ⟨g, k * 8 + 3, none⟩ (.int .i64 n3)).setCell ⟨g, k * 8 + 4, none⟩ (.int .i64 st)) := Below.setCell (p := ⟨g, k * 8 + 4, none⟩) (Below.setCell (p := ⟨g, k * 8 + 3, none⟩) (Below.setCell (p := ⟨g, k * 8 + 7, none⟩) (Below.setCell (p := ⟨g, k * 8 + 6, none⟩) HB6.out hwg _) hwg _) hwg _) hwg _
    refine bodyPost_ret (v := .tuple #[.slice (some ⟨g, 0, none⟩) L.length cap6, .int .i64 0]) (by simp [results, Tryz.results51, go_sem]) rfl ⟨g, cap6, L', rfl, hL'.mono HBW.out.size, hp', hbl⟩
set_option maxHeartbeats 2000000 in
theorem rmore_no {S : Nat → Prop} (v : Value) (L : List Rw) (k : Nat) (no gen st : Int) (s : ByteArray) (x : Rw) (w : World) (hv : TabAt S w v L) (hk : L[k]? = some x) (hn : ∀ e ∈ x.i.ents, e.1.size ≤ maxLen) (hs : s.size ≤ maxLen) (hf : ¬ Fo.addErr x.i.ents x.i.next s no gen = 0) :
    Calls Tryz.prog 51 #[v, .int .i64 k, .string s, .agg #[.int .i64 no, .int .i64 gen], .int .i64 st] w fun e w' => e = .returned (.tuple #[.slice none 0 0, .int .i64 (Fo.addErr x.i.ents x.i.next s no gen)]) ∧ Below w.heap.size w w' := by
  have HV : Hid (TabAt S w v L) := hv
  obtain ⟨ao, cap, rfl, hm, hx⟩ := hv.open
  obtain ⟨⟨bb, off, rfl, hB, hc8⟩, hgd⟩ := hx k x hk
  have HX8 : Hid (∀ V, Below w.heap.size w V → eight V bb (off + k * 8) x) := fun V h => hc8.below h hB
  have HG : Hid (Good S w x) := hgd
  have HK : Hid (L[k]? = some x) := hk
  have hkl : (k : Int) < (L.length : Int) := by have := (List.getElem?_eq_some_iff.1 hk).1; omega
  obtain ⟨es, hes⟩ : ∃ es : List Ent, [] = es := ⟨_, rfl⟩
  obtain ⟨nx, hnx⟩ : ∃ nx : Int, 0 = nx := ⟨_, rfl⟩
  obtain ⟨ae, hae⟩ : ∃ ae, Fo.addErr x.i.ents x.i.next s no gen = ae := ⟨_, rfl⟩
  have HCF : Hid (∀ V : World, Below w.heap.size w V → Calls Tryz.prog 88 #[.agg #[.slice x.ep x.en x.ec, .int .i64 x.i.next], .string s, .agg #[.int .i64 no, .int .i64 gen]] V fun e w' => ∃ p n c, e = .returned (.tuple #[.agg #[.slice p n c, .int .i64 nx], .int .i64 ae]) ∧ Hid (n = es.length) ∧ At EE (fun b => V.heap.size ≤ b) w' (.slice p n c) es ∧ Below V.heap.size V w') := fun V h => by
    refine (radd_any _ x.i.ents x.i.next s no gen V (hgd.up h).2.1.wide hn hs).mono ?_
    rintro e w' ⟨u, he, hu, hb⟩
    rw [if_neg hf, hae, hnx] at he
    rw [if_neg hf, hes] at hu
    obtain ⟨p, c, rfl, -, -⟩ := hu.open
    exact ⟨p, _, c, he, rfl, hu, hb⟩
  rw [hae] at hf ⊢
  have hz' : (ae != 0) = true := by simpa using hf
  obtain ⟨W, hW⟩ : ∃ W, W = w.alloc (BH no gen) := ⟨_, rfl⟩
  have HB0 : Hid (Below w.heap.size w W) := by show Below w.heap.size w W; rw [hW]; exact (Below.refl _ w).alloc (Nat.le_refl _) _
  have HA0 : Hid (W.heap[w.heap.size]? = some (BH no gen)) := by show W.heap[w.heap.size]? = _; rw [hW]; exact heap_alloc_new _ _
  have hws : w.heap.size < W.heap.size := by rw [hW]; simp
  have HSG : Hid (∀ V : World, Below W.heap.size W V → V.cell? ⟨bb, off + k * 8 + 6, none⟩ = some (.slice x.ep x.en x.ec) ∧ V.cell? ⟨bb, off + k * 8 + 7, none⟩ = some (.int .i64 x.i.next) ∧ V.cell? ⟨w.heap.size, 0, none⟩ = some (.int .i64 no) ∧ V.cell? ⟨w.heap.size, 1, none⟩ = some (.int .i64 gen)) := fun V h => by
    obtain ⟨r0, r1, r2, r3, r4, r5, r6, r7⟩ := HX8.out _ (HB0.out.trans (h.mono HB0.out.size))
    obtain ⟨⟨a0, a1⟩, _⟩ := two_of HA0.out
    exact ⟨r6, r7, cell_step a0 h, cell_step a1 h⟩
  have HCW : Hid (∀ V : World, Below W.heap.size W V → Calls Tryz.prog 88 #[.agg #[.slice x.ep x.en x.ec, .int .i64 x.i.next], .string s, .agg #[.int .i64 no, .int .i64 gen]] V fun e w' => ∃ p n c, e = .returned (.tuple #[.agg #[.slice p n c, .int .i64 nx], .int .i64 ae]) ∧ Hid (n = es.length) ∧ At EE (fun b => V.heap.size ≤ b) w' (.slice p n c) es ∧ Below V.heap.size V w') := fun V h => HCF.out V (HB0.out.trans (h.mono HB0.out.size))
  clear hv hx hc8 hgd hk hn hs hf hes hnx hm HCF hae
  go_enter Tryz.func51, Tryz.ntmps51
  go_wp2_with fail
  rw [← hW]
  clear hW
  go_region_held3 (fun V => V.cell? ⟨bb, off + k * 8 + 6, none⟩ = some (.slice x.ep x.en x.ec) ∧ V.cell? ⟨bb, off + k * 8 + 7, none⟩ = some (.int .i64 x.i.next) ∧ V.cell? ⟨w.heap.size, 0, none⟩ = some (.int .i64 no) ∧ V.cell? ⟨w.heap.size, 1, none⟩ = some (.int .i64 gen)) (first | exact HSG.out _ (by (repeat (first | with_reducible assumption | exact Below.refl _ _ | refine bel_drew ?_ | refine Below.setCell ?_ (by first | exact Nat.le_refl _ | assumption) _ | refine Below.alloc ?_ (by first | exact Nat.le_refl _ | assumption) _)))) (first
    | (go_at_call 88; refine (HCW.out _ (by (repeat (first | with_reducible assumption | exact Below.refl _ _ | refine bel_drew ?_ | refine Below.setCell ?_ (by first | exact Nat.le_refl _ | assumption) _ | refine Below.alloc ?_ (by first | exact Nat.le_refl _ | assumption) _)))).mono ?_; rintro e w3 ⟨p3, n3, c3, rfl, hn3, hu3, hb3⟩; (first | (have hz3 : w3.heap[W.heap.size]? = some BZF := (hb3.block _ (by simp)).trans (heap_alloc_new W.drew BZF); have hb33 : Below W.heap.size W w3 := ((bel_drew (Below.refl _ _)).alloc (Nat.le_refl _) BZF).trans (hb3.mono (by simp)); have hl3 := (Array.getElem?_eq_some_iff.1 hz3).1; obtain ⟨⟨f0, f1⟩, ff⟩ := two_ofF (v := .slice none 0 0) (n := 0) hz3) | (have hz3 : w3.heap[W.heap.size]? = some BZF := (hb3.block _ (by simp)).trans (heap_alloc_new W BZF); have hb33 : Below W.heap.size W w3 := ((Below.refl _ _).alloc (Nat.le_refl _) BZF).trans ((undrew hb3).mono (by simp)); have hl3 := (Array.getElem?_eq_some_iff.1 hz3).1; obtain ⟨⟨f0, f1⟩, ff⟩ := two_ofF (v := .slice none 0 0) (n := 0) hz3) | (have hb33 : Below W.heap.size W w3 := undrew hb3)); have hs3 : W.heap.size ≤ w3.heap.size := hb33.size))
  all_goals first
      | (obtain ⟨W5, hW5⟩ : ∃ W5, W5 = w3.alloc (BF (.slice p3 n3 c3) nx) := ⟨_, rfl⟩
         rw [← hW5]
         obtain ⟨b9, hb9⟩ : ∃ b9, b9 = w3.heap.size := ⟨_, rfl⟩
         have HX5 : Hid (W5.heap[b9]? = some (BF (.slice p3 n3 c3) nx)) := by rw [hW5, hb9]; exact heap_alloc_new _ _
         have HBX : Hid (Below W.heap.size W W5) := by rw [hW5]; exact hb33.alloc hs3 _
         have HU5 : Hid (At EE (fun b => w.heap.size ≤ b) W5 (.slice p3 n3 c3) es) := by rw [hW5]; exact (hu3.up ((Below.refl _ _).alloc (Nat.le_refl _) _)).imp fun b hb _ => by first | exact hb | (simp at hb; omega)
         rw [← hb9]
         clear hb9 hW5)
      | (obtain ⟨W5, hW5⟩ : ∃ W5, W5 = (w3.setCell ⟨W.heap.size, 0, none⟩ (.slice p3 n3 c3)).setCell ⟨W.heap.size, 1, none⟩ (.int .i64 nx) := ⟨_, rfl⟩
         rw [← hW5]
         obtain ⟨b9, hb9⟩ : ∃ b9, b9 = W.heap.size := ⟨_, rfl⟩
         have HX5 : Hid (W5.heap[b9]? = some (BF (.slice p3 n3 c3) nx)) := by rw [hW5, hb9]; exact setF hz3
         have HBX : Hid (Below W.heap.size W W5) := by
           rw [hW5]
           exact Below.setCell (p := ⟨W.heap.size, 1, none⟩) (Below.setCell (p := ⟨W.heap.size, 0, none⟩) hb33 (Nat.le_refl _) _) (Nat.le_refl _) _
         have HU5 : Hid (At EE (fun b => w.heap.size ≤ b) W5 (.slice p3 n3 c3) es) := by
           rw [hW5]
           exact (At.setCell (S := fun b => w.heap.size ≤ b ∧ b ≠ W.heap.size) (At.setCell (hu3.imp fun b hb _ => by simp at hb; omega) (by simp) _) (by simp) _).imp fun b hb _ => hb.1
         rw [← hb9]
         clear hb9 hW5 f0 f1 ff)
  all_goals
    (try simp only [Exit.then])
    have HBW : Hid (Below w.heap.size w W5) := HB0.out.trans (HBX.out.mono HB0.out.size)
    have HBL : Hid (b9 < W5.heap.size) := (Array.getElem?_eq_some_iff.1 HX5.out).1
    have HN3 : Hid (n3 = es.length) := hn3.out
    clear hb3 hb33 hu3 HCW HSG hn3
    go_wp2
    (try simp only [Exit.inBlock, Exit.then])
    refine bodyPost_ret (v := .tuple #[.slice none 0 0, .int .i64 ae]) (by simp [results, Tryz.results51, go_sem]) rfl ⟨rfl, HBW.out⟩
end Go.Proofs.YtacghcoikekfeaaGreat
/- SRef8 -/
namespace Go.Proofs.YtacghcoikekfeaaGreat
open Go.ChangeShapes Go.WideShapes Go.ChangeAt Go.RowKit Go.Deep It
set_option maxRecDepth 100000
/-- What its Right means, as far as the others ask: proved elsewhere. -/
def Sp.RtMeans (R : List Ino → Bool) : Prop := ∀ L, R L = true → It.right L = true
set_option maxHeartbeats 2000000 in
theorem rlooks_any {R : List Ino → Bool} (hR : RtSaid R) (hM : Sp.RtMeans R) {S : Nat → Prop} (v : Value) (L : List Rw) (a b : Int) (s : ByteArray) (w : World) (hv : TabAt S w v L) (hok : Sp.okN L) (hs : s.size ≤ maxLen) :
    Calls Tryz.prog 16 #[v, .agg #[.int .i64 a, .int .i64 b], .string s] w fun e w' => e = .returned (.tuple #[.agg #[.int .i64 (Sp.atH (Sp.chk R) (pl L) a b s).1, .int .i64 (Sp.atH (Sp.chk R) (pl L) a b s).2], .int .i64 (Sp.atErr (Sp.chk R) (pl L) a b s)]) ∧ Below w.heap.size w w' := by
  obtain ⟨W, hW⟩ : ∃ W, W = (w.alloc (BH a b)).alloc (BH 0 0) := ⟨_, rfl⟩
  have HB0 : Hid (Below w.heap.size w W) := by show Below w.heap.size w W; rw [hW]; exact ((Below.refl _ w).alloc (Nat.le_refl _) _).alloc (by simp) _
  have HA0 : Hid (W.heap[w.heap.size]? = some (BH a b) ∧ W.heap[w.heap.size + 1]? = some (BH 0 0)) := by
    rw [hW]
    refine ⟨(Below.heap_alloc _ _ _ (by simp)).trans (heap_alloc_new _ _), ?_⟩
    have := heap_alloc_new (w.alloc (BH a b)) (BH 0 0)
    rwa [show (w.alloc (BH a b)).heap.size = w.heap.size + 1 by simp] at this
  have hws : w.heap.size + 1 < W.heap.size := by rw [hW]; simp
  have HV : Hid (TabAt S W v L) := hv.up HB0.out
  obtain ⟨i, hi⟩ : ∃ i, R (pl L) = i := ⟨_, rfl⟩
  have HC : Hid (Calls Tryz.prog 11 #[v] W fun e w' => e = .returned (.bool i) ∧ Below W.heap.size W w') := by rw [← hi]; exact hR S v L W HV.out hok
  obtain ⟨ao, cap, rfl, -, -⟩ := hv.open
  have HOK : Hid (Sp.okN L) := hok
  have HSM : Hid (s.size ≤ maxLen) := hs
  clear hv hok hs hR
  cases i
  · have hc : Sp.chk R (pl L) = 4 := by unfold Sp.chk; rw [hi]; rfl
    rw [show Sp.atErr (Sp.chk R) (pl L) a b s = 4 by unfold Sp.atErr; rw [hc]; rfl, show Sp.atH (Sp.chk R) (pl L) a b s = (0, 0) by unfold Sp.atH; rw [hc]; rfl]
    clear hc hi hM
    go_enter Tryz.func16, Tryz.ntmps16
    go_wp2_with fail
    rw [← hW]
    refine HC.out.mono ?_
    rintro e w1 ⟨rfl, hb1⟩
    have HB1 : Hid (Below w.heap.size w w1) := HB0.out.trans (hb1.mono HB0.out.size)
    have HZ1 : Hid (w1.heap[w.heap.size + 1]? = some (BH 0 0)) := (hb1.block _ hws).trans HA0.out.2
    have hws1 : w.heap.size + 1 < w1.heap.size := (Array.getElem?_eq_some_iff.1 HZ1.out).1
    clear hb1 hW
    obtain ⟨⟨z0, z1⟩, zf⟩ := two_of HZ1.out
    go_wp2
    (try simp only [Exit.inBlock, Exit.then])
    refine bodyPost_ret (v := .tuple #[.agg #[.int .i64 0, .int .i64 0], .int .i64 4]) ?_ rfl ⟨rfl, ?_⟩
    · rw [results_cell_tmp rfl]
      go_simp
    · have hs1 := HB1.out.size
      repeat (first | exact HB1.out | refine Below.setCell ?_ (by simp) _ | refine Below.alloc ?_ (by simp; omega) _)
  · have hc : Sp.chk R (pl L) = 0 := by unfold Sp.chk; rw [hi]; rfl
    obtain ⟨⟨q1, q2⟩, hq⟩ : ∃ q, Sp.lookH (pl L) a b s = q := ⟨_, rfl⟩
    obtain ⟨le, hle⟩ : ∃ le, Sp.lookErr (pl L) a b s = le := ⟨_, rfl⟩
    have HQ : Hid (Sp.lookH (pl L) a b s = (q1, q2) ∧ Sp.lookErr (pl L) a b s = le) := ⟨hq, hle⟩
    have HRT : Hid (It.right (pl L) = true) := hM _ hi
    rw [show Sp.atErr (Sp.chk R) (pl L) a b s = le by unfold Sp.atErr; rw [if_pos hc, hle], show Sp.atH (Sp.chk R) (pl L) a b s = (q1, q2) by unfold Sp.atH; rw [if_pos hc, hq]]
    clear hc hi hM hq hle
    go_enter Tryz.func16, Tryz.ntmps16
    go_wp2_with fail
    rw [← hW]
    refine HC.out.mono ?_
    rintro e w1 ⟨rfl, hb1⟩
    have HB1 : Hid (Below w.heap.size w w1) := HB0.out.trans (hb1.mono HB0.out.size)
    have HA1 : Hid (w1.heap[w.heap.size]? = some (BH a b) ∧ w1.heap[w.heap.size + 1]? = some (BH 0 0)) := ⟨(hb1.block _ (by omega)).trans HA0.out.1, (hb1.block _ hws).trans HA0.out.2⟩
    have HV1 : Hid (TabAt S w1 (.slice ao L.length cap) L) := HV.out.up hb1
    have hws1 : w.heap.size + 1 < w1.heap.size := (Array.getElem?_eq_some_iff.1 HA1.out.2).1
    clear hb1 hW
    obtain ⟨⟨a0, a1⟩, af⟩ := two_of HA1.out.1
    go_wp2_with fail
    refine (rlook_any _ L a b s _ HV1.out HOK.out HSM.out HRT.out).mono ?_
    rintro e w2 ⟨rfl, hb2⟩
    rw [HQ.out.1, HQ.out.2]
    have HB2 : Hid (Below w.heap.size w w2) := HB1.out.trans (hb2.mono HB1.out.size)
    have HZ2 : Hid (w2.heap[w.heap.size + 1]? = some (BH 0 0)) := (hb2.block _ hws1).trans HA1.out.2
    have hws2 : w.heap.size + 1 < w2.heap.size := (Array.getElem?_eq_some_iff.1 HZ2.out).1
    clear hb2 a0 a1 af
    obtain ⟨⟨z0, z1⟩, zf⟩ := two_of HZ2.out
    go_wp2
    (try simp only [Exit.inBlock, Exit.then])
    refine bodyPost_ret (v := .tuple #[.agg #[.int .i64 q1, .int .i64 q2], .int .i64 le]) ?_ rfl ⟨rfl, ?_⟩
    · rw [results_cell_tmp rfl]
      go_simp
    · have hs1 := HB2.out.size
      repeat (first | exact HB2.out | refine Below.setCell ?_ (by simp) _ | refine Below.alloc ?_ (by simp; omega) _)
end Go.Proofs.YtacghcoikekfeaaGreat
