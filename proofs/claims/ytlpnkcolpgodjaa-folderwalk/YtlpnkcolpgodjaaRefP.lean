/-
  The document's answer: sextonref10.Page.
-/
import Derived.Test.YtlpnkcolpgodjaaPage
import Derived.Test.YtlpnkcolpgodjaaRefB
namespace Go.Proofs.Ytlpnkcolpgodjaa
open Go.ChangeShapes Go.WideShapes Go.ChangeAt Go.RowKit Go.Deep
namespace Fo
/-- What the first k entries bring into a page. -/
def pre (l : List Ent) (c : Int) (n : Nat) (k : Nat) : List Ent := ((l.take k).filter (past c)).take n
theorem pre_zero' (l : List Ent) (c : Int) (n : Nat) : pre l c n 0 = [] := by simp [pre]
theorem pre_in {l : List Ent} {c : Int} {n k : Nat} {x : Ent} (hx : l[k]? = some x) (hp : past c x = true) (hl : (pre l c n k).length < n) : pre l c n (k + 1) = pre l c n k ++ [x] := by
  unfold pre at hl ⊢
  rw [List.length_take] at hl
  rw [List.take_add_one, hx, List.filter_append]
  simp only [Option.toList_some, List.filter_cons, hp, if_true, List.filter_nil]
  generalize (l.take k).filter (past c) = A at hl ⊢
  have h1 : (A ++ [x]).take n = A ++ [x] := List.take_of_length_le (by simp; omega)
  have h2 : A.take n = A := List.take_of_length_le (by omega)
  rw [h1, h2]
theorem pre_full {l : List Ent} {c : Int} {n k : Nat} (hl : ¬ (pre l c n k).length < n) : pre l c n (k + 1) = pre l c n k := by
  unfold pre at hl ⊢
  rw [List.length_take] at hl
  rw [List.take_add_one, List.filter_append, List.take_append_of_le_length (by omega)]
theorem pre_out {l : List Ent} {c : Int} {n k : Nat} {x : Ent} (hx : l[k]? = some x) (hp : past c x = false) : pre l c n (k + 1) = pre l c n k := by
  unfold pre
  rw [List.take_add_one, hx, List.filter_append]
  simp [hp]
theorem pre_len (l : List Ent) (c : Int) (n k : Nat) : (pre l c n k).length ≤ n := by simp [pre]; omega
/-- Behind the first cookie that is greater all are. -/
theorem rising {l : List Ent} {next : Int} (h : Right l next) : ∀ (j i : Nat) x y, i < j → l[i]? = some x → l[j]? = some y → x.2.1 < y.2.1 := fun j => by
  induction j with
  | zero => intro i x y hij; omega
  | succ j ih =>
    intro i x y hij hx hy
    have hjl := (List.getElem?_eq_some_iff.1 hy).1
    have hz : l[j]? = some (l[j]'(by omega)) := List.getElem?_eq_getElem _
    have hg := h.2.1 (j + 1) hjl y hy
    rw [lastC_succ hz] at hg
    by_cases e : i = j
    · subst e
      rw [hx] at hz
      cases hz
      omega
    · have := ih i x _ (by omega) hx hz
      omega
theorem page_pre {l : List Ent} {next c n : Int} (h : Right l next) (hp : pageErr l next c n = 0) : page l next c n = pre l c n.toNat l.length := by
  unfold pre
  rw [List.take_length]
  rcases at_or (past c) l with ⟨ht, hall⟩ | ⟨k, x, ht, hx, hk, hb⟩
  · rw [page_miss ht, List.filter_eq_nil_iff.2 (fun y hy => by rw [hall y hy]; decide), List.take_nil]
  · rw [page_hit hp ht]
    congr 1
    have e : l = l.take k ++ l.drop k := (List.take_append_drop k l).symm
    rw [e, List.filter_append, ← e]
    have h1 : (l.take k).filter (past c) = [] := List.filter_eq_nil_iff.2 fun y hy => by
      obtain ⟨j, hj⟩ := List.mem_iff_getElem?.1 hy
      have hjk : j < k := by have := (List.getElem?_eq_some_iff.1 hj).1; simp at this; omega
      rw [List.getElem?_take_of_lt hjk] at hj
      rw [hb j y hjk hj]
      decide
    have h2 : (l.drop k).filter (past c) = l.drop k := List.filter_eq_self.2 fun y hy => by
      obtain ⟨j, hj⟩ := List.mem_iff_getElem?.1 hy
      rw [List.getElem?_drop] at hj
      have hx1 : c < x.2.1 := of_decide_eq_true hk
      refine decide_eq_true ?_
      by_cases e0 : j = 0
      · subst e0
        rw [Nat.add_zero, hx] at hj
        cases hj
        exact hx1
      · have := rising h (k + j) k x y (by omega) hx hj
        omega
    rw [h1, h2, List.nil_append]
end Fo
abbrev BF (v : Value) (next : Int) : Obj := .cells #[v, .int .i64 next] 44
theorem boxf_cells (w : World) (v : Value) (next : Int) : (w.alloc (BF v next)).cell? ⟨w.heap.size, 0, none⟩ = some v ∧ (w.alloc (BF v next)).cell? ⟨w.heap.size, 1, none⟩ = some (.int .i64 next) := by
  have hh := heap_alloc_new w (BF v next)
  constructor <;> simp only [World.cell?, hh] <;> rfl
set_option maxHeartbeats 4000000 in
theorem rpage_any (v : Value) (l : List Ent) (next c n : Int) (w : World) (hv : AtW EE w v l) (hs : ∀ x ∈ l, x.1.size ≤ maxLen) :
    Calls Try.prog 24 #[VD v next, .int .i64 c, .int .i64 n] w fun e w' => ∃ p j q, e = .returned (.tuple #[.slice p j q, .int .i64 (Fo.pageErr l next c n)]) ∧ At EE (fun b => w.heap.size ≤ b) w' (.slice p j q) (Fo.page l next c n) ∧ Below w.heap.size w w' := by
  have hv0 := hv
  obtain ⟨ao, cap, rfl, hm, hx⟩ := hv0.open
  clear hv0
  unfold maxLen at hm
  obtain ⟨m, hlm⟩ : ∃ m, l.length = m := ⟨_, rfl⟩
  rw [hlm] at hm hv ⊢
  have HLM : Hid (l.length = m) := hlm
  clear hlm
  have HB0 : Hid (Below w.heap.size w (w.alloc (BF (.slice ao m cap) next))) := (Below.refl _ w).alloc (Nat.le_refl _) _
  obtain ⟨a0, a1⟩ := boxf_cells w (.slice ao m cap) next
  have HV : Hid (AtW EE (w.alloc (BF (.slice ao m cap) next)) (.slice ao m cap) l) := hv.up HB0.out
  have HS : Hid (∀ x ∈ l, x.1.size ≤ maxLen) := hs
  have HX : Hid (∀ i x, l[i]? = some x → ∃ b off, ao = some ⟨b, off, none⟩ ∧ True ∧ b < w.heap.size ∧ ∀ k u, (EE.cells x)[k]? = some u → w.cell? ⟨b, off + (i * EE.sz + k), none⟩ = some u) := hx
  clear hv hs hx
  rcases Fo.err_or l next with ⟨he, hr⟩ | ⟨he, -⟩
  · have HE : Hid (decide (Fo.err l next = 0) = true) := decide_eq_true he
    by_cases hbad : c < 0 ∨ n < 1 ∨ 64 < n
    · have HPE : Hid (Fo.pageErr l next c n = 1) := by show Fo.pageErr l next c n = 1; unfold Fo.pageErr; rw [if_pos he, if_neg (fun h => by omega)]
      have HPG : Hid (Fo.page l next c n = []) := Fo.page_no HPE.out (by decide)
      rw [HPE.out]
      clear he hr
      by_cases c0 : c < 0
      · clear hbad
        go_enter Try.func24, Try.ntmps24
        go_wp2_with fail
        refine (rright_any _ l next _ HV.out HS.out).mono ?_
        rintro e w1 ⟨rfl, hb⟩
        rw [HE.out]
        go_wp2
        go_ret2
        exact ⟨none, 0, 0, rfl, by rw [HPG.out]; exact .inl ⟨_, _, rfl, rfl⟩, HB0.out.trans (hb.mono HB0.out.size)⟩
      by_cases n0 : n < 1
      · clear hbad
        go_enter Try.func24, Try.ntmps24
        go_wp2_with fail
        refine (rright_any _ l next _ HV.out HS.out).mono ?_
        rintro e w1 ⟨rfl, hb⟩
        rw [HE.out]
        go_wp2
        go_ret2
        exact ⟨none, 0, 0, rfl, by rw [HPG.out]; exact .inl ⟨_, _, rfl, rfl⟩, HB0.out.trans (hb.mono HB0.out.size)⟩
      have n1 : 64 < n := by omega
      clear hbad
      go_enter Try.func24, Try.ntmps24
      go_wp2_with fail
      refine (rright_any _ l next _ HV.out HS.out).mono ?_
      rintro e w1 ⟨rfl, hb⟩
      rw [HE.out]
      go_wp2
      go_ret2
      exact ⟨none, 0, 0, rfl, by rw [HPG.out]; exact .inl ⟨_, _, rfl, rfl⟩, HB0.out.trans (hb.mono HB0.out.size)⟩
    have c0 : ¬ c < 0 := by omega
    have n0 : ¬ n < 1 := by omega
    have n1 : ¬ 64 < n := by omega
    have HPE : Hid (Fo.pageErr l next c n = 0) := by show Fo.pageErr l next c n = 0; unfold Fo.pageErr; rw [if_pos he, if_pos ⟨by omega, by omega, by omega⟩]
    have HPG : Hid (Fo.page l next c n = Fo.pre l c n.toNat l.length) := Fo.page_pre hr HPE.out
    obtain ⟨j0, hj, hy0, hy1, hy2⟩ := info_parts infoE
    rw [HPE.out]
    clear he hr hbad
    go_enter Try.func24, Try.ntmps24
    go_wp2_with fail
    refine (rright_any _ l next _ HV.out HS.out).mono ?_
    rintro e w1 ⟨rfl, hb⟩
    rw [HE.out]
    have e0 := cell_step a0 hb
    have HB1 : Hid (Below w.heap.size w w1) := HB0.out.trans (hb.mono HB0.out.size)
    have hs1 := HB1.out.size
    clear hb a0 a1
    go_wp2
    go_loopw [8, 30] (fun u i wr => ∃ (k : Nat) (p : Option Addr) (jj q : Nat), k ≤ m ∧ i = .int .i64 k ∧ u = .slice p jj q ∧ Hid (jj = (Fo.pre l c n.toNat k).length ∧ Row EE wr w.heap.size 30 (.slice p jj q) (Fo.pre l c n.toNat k)) ∧ Hid (Below w.heap.size w wr)) (fun _ i _ => m - (intOf i).toNat)
    case atStart => exact ⟨0, none, 0, 0, Nat.zero_le _, rfl, rfl, ⟨by rw [Fo.pre_zero']; rfl, by rw [Fo.pre_zero']; exact Row.nil _ _ _ _⟩, HB1⟩
    case round =>
      obtain ⟨k, p, jj, q, hk, rfl, rfl, HR, HB⟩ := hrel
      by_cases hlt : k < m
      · obtain ⟨x, hxk⟩ : ∃ x, l[k]? = some x := ⟨_, List.getElem?_eq_getElem (by rw [HLM.out]; exact hlt)⟩
        have HXK : Hid (l[k]? = some x) := hxk
        obtain ⟨b2, off, rfl, -, hB, hcx⟩ := HX.out k x hxk
        have a := fun j u hj => (HB.out.cell (p := ⟨b2, off + (k * EE.sz + j), none⟩) hB).trans (hcx j u hj)
        have c0' : wr.cell? ⟨b2, off + k * 4, none⟩ = some (.string x.1) := a 0 _ rfl
        have c1 : wr.cell? ⟨b2, off + k * 4 + 1, none⟩ = some (.int .i64 x.2.1) := a 1 _ rfl
        have c2 : wr.cell? ⟨b2, off + k * 4 + 2, none⟩ = some (.int .i64 x.2.2.1) := a 2 _ rfl
        have c3 : wr.cell? ⟨b2, off + k * 4 + 3, none⟩ = some (.int .i64 x.2.2.2) := a 3 _ rfl
        have hsz := HB.out.size
        have hlt' : (k : Int) < (m : Int) := by omega
        have hjn : jj ≤ 64 := by have := Fo.pre_len l c n.toNat k; have := HR.out.1; omega
        clear a hcx hxk
        have HB2 : Hid (Below w.heap.size w (wr.alloc (BE x))) := HB.out.alloc hsz _
        have HR2 : Hid (Row EE (wr.alloc (BE x)) w.heap.size 30 (.slice p jj q) (Fo.pre l c n.toNat k)) := HR.out.2.up ((Below.refl _ _).alloc (Nat.le_refl _) _)
        cases hp : Fo.past c x with
        | true =>
          have hp' : c < x.2.1 := of_decide_eq_true hp
          by_cases hl : (jj : Int) < n
          · have HG : Hid (Fo.pre l c n.toNat (k + 1) = Fo.pre l c n.toNat k ++ [x]) := Fo.pre_in HXK.out hp (by rw [← HR.out.1]; omega)
            have HR3 : Hid (Row EE ((wr.alloc (BE x)).alloc (BE x)) w.heap.size 30 (.slice p jj q) (Fo.pre l c n.toNat k)) := HR2.out.up ((Below.refl _ _).alloc (Nat.le_refl _) _)
            have HB3 : Hid (Below w.heap.size w ((wr.alloc (BE x)).alloc (BE x))) := HB2.out.alloc (by simp; omega) _
            have HO : Hid (AtW EE ((wr.alloc (BE x)).alloc (BE x)) (.slice (some ⟨wr.heap.size + 1, 0, none⟩) 1 1) [x]) := by
              have h2 := heap_alloc_new (wr.alloc (BE x)) (BE x)
              rw [show (wr.alloc (BE x)).heap.size = wr.heap.size + 1 by simp] at h2
              exact at_one h2
            clear hp
            go_wp2_with (at_builtin; refine wpList_row _ rfl _ _ 22 rfl EE (fun _ => True) w.heap.size 30 j0 _ 40 Try.underlying22 hj hy0 hy1 hy2 rfl _ (Fo.pre l c n.toNat k) rfl HR3.out _ [x] rfl HO.out (by have := HR.out.1; unfold maxLen; simp; omega) (by have := HR.out.1; simp; omega) (by simp; omega) ?_; intro v7 w7 hrow7 hg7 hloc7)
            have HEND : Hid (Row EE w7 w.heap.size 30 v7 (Fo.pre l c n.toNat (k + 1)) ∧ Below w.heap.size w w7) := ⟨by rw [HG.out]; exact hrow7, HB3.out.grown hg7 (by simp; omega) (fun k hk => (HR3.out.lt k hk).1)⟩
            clear hrow7 hg7 hloc7
            obtain ⟨p7, c7, hv7⟩ := HEND.out.1.slice
            obtain ⟨n7, hn7⟩ : ∃ n7, (Fo.pre l c n.toNat (k + 1)).length = n7 := ⟨_, rfl⟩
            rw [hn7] at hv7
            subst hv7
            have HN7 : Hid (n7 = (Fo.pre l c n.toNat (k + 1)).length) := hn7.symm
            clear hn7
            go_wp2
            go_roundw
            case rel => exact ⟨k + 1, p7, n7, c7, by omega, by go_num, rfl, ⟨HN7.out, HEND.out.1⟩, HEND.out.2⟩
            case measure => simp [intOf]; omega
          · have HG : Hid (Fo.pre l c n.toNat (k + 1) = Fo.pre l c n.toNat k) := Fo.pre_full (by rw [← HR.out.1]; omega)
            clear hp
            go_wp2
            go_roundw
            case rel => exact ⟨k + 1, p, jj, q, by omega, by go_num, rfl, ⟨by rw [HG.out]; exact HR.out.1, by rw [HG.out]; exact HR2.out⟩, HB2⟩
            case measure => simp [intOf]; omega
        | false =>
          have hp' : ¬ c < x.2.1 := of_decide_eq_false hp
          have HG : Hid (Fo.pre l c n.toNat (k + 1) = Fo.pre l c n.toNat k) := Fo.pre_out HXK.out hp
          clear hp
          go_wp2
          go_roundw
          case rel => exact ⟨k + 1, p, jj, q, by omega, by go_num, rfl, ⟨by rw [HG.out]; exact HR.out.1, by rw [HG.out]; exact HR2.out⟩, HB2⟩
          case measure => simp [intOf]; omega
      · obtain rfl : k = m := by omega
        go_wp2
        go_ret2
        exact ⟨_, _, _, rfl, by rw [HPG.out, HLM.out]; exact HR.out.2.at, HB.out⟩
  · have HE : Hid (decide (Fo.err l next = 0) = false) := decide_eq_false (by rw [he]; decide)
    have HPE : Hid (Fo.pageErr l next c n = 4) := by show Fo.pageErr l next c n = 4; unfold Fo.pageErr; rw [if_neg (by rw [he]; decide)]
    have HPG : Hid (Fo.page l next c n = []) := Fo.page_no HPE.out (by decide)
    rw [HPE.out]
    clear he
    go_enter Try.func24, Try.ntmps24
    go_wp2_with fail
    refine (rright_any _ l next _ HV.out HS.out).mono ?_
    rintro e w1 ⟨rfl, hb⟩
    rw [HE.out]
    go_wp2
    go_ret2
    exact ⟨none, 0, 0, rfl, by rw [HPG.out]; exact .inl ⟨_, _, rfl, rfl⟩, HB0.out.trans (hb.mono HB0.out.size)⟩
end Go.Proofs.Ytlpnkcolpgodjaa
