/-
  The document's answer: sextonref12.Leave, Close.
-/
import Derived.Test.YtlikcijoejgkkaaRef
namespace Go.Proofs.Ytlikcijoejgkkaa
open Go.ChangeShapes Go.WideShapes Go.ChangeAt Go.RowKit Go.Deep
theorem Row.apart {α β : Type} {E : Enc α} {E' : Enc β} {w : World} {B B' : Nat} {e e' : TypeId} {v v' : Value} {ls : List α} {ls' : List β} (h : Row E w B e v ls) (h' : Row E' w B' e' v' ls') (he : e ≠ e') : v.ownBlock = none ∨ v.ownBlock ≠ v'.ownBlock := by
  rcases h with ⟨rfl, rfl⟩ | ⟨g, cap, cur, rfl, hB, hg, -⟩
  · exact .inl rfl
  · right
    rcases h' with ⟨rfl, rfl⟩ | ⟨g', cap', cur', rfl, hB', hg', -⟩
    · simp [Value.ownBlock]
    · intro h
      simp [Value.ownBlock] at h
      subst h
      rw [hg] at hg'
      simp at hg'
      exact he hg'.2
theorem Row.off {α : Type} {E : Enc α} {w : World} {B A : Nat} {e e' : TypeId} {v : Value} {ls : List α} {cs : Array Value} {z : Nat × Nat} (h : Row E w B e v ls) (h' : w.heap[A]? = some (.cells cs e' z)) (he : e ≠ e') : v.ownBlock = none ∨ v.ownBlock ≠ some A := by
  rcases h with ⟨rfl, rfl⟩ | ⟨g, cap, cur, rfl, hB, hg, -⟩
  · exact .inl rfl
  · right
    intro h
    simp [Value.ownBlock] at h
    subst h
    rw [hg] at h'
    simp at h'
    exact he h'.2.1
namespace Op
def kept (l : List Opn) (c : Int) (k : Nat) : List Opn := (l.take k).filter fun x => !(x.2.1 == c)
def gone (l : List Opn) (c : Int) (k : Nat) : List (Int × Int) := ((l.take k).filter fun x => x.2.1 == c).map hOf
theorem kept_in {l : List Opn} {c : Int} {k : Nat} {x : Opn} (h : l[k]? = some x) (hx : ¬ x.2.1 = c) : kept l c (k + 1) = kept l c k ++ [x] ∧ gone l c (k + 1) = gone l c k := by
  unfold kept gone
  rw [take_at h, List.filter_append, List.filter_append]
  simp [hx]
theorem gone_in {l : List Opn} {c : Int} {k : Nat} {x : Opn} (h : l[k]? = some x) (hx : x.2.1 = c) : kept l c (k + 1) = kept l c k ∧ gone l c (k + 1) = gone l c k ++ [hOf x] := by
  unfold kept gone
  rw [take_at h, List.filter_append, List.filter_append, List.map_append]
  simp [hx]
theorem kept_len (l : List Opn) (c : Int) (k : Nat) : (kept l c k).length ≤ k := filter_len l _ k
theorem gone_len (l : List Opn) (c : Int) (k : Nat) : (gone l c k).length ≤ k := by
  unfold gone
  rw [List.length_map]
  exact filter_len l _ k
theorem kept_all {l : List Opn} {c : Int} (ha : ask l c = 0) : left l c = kept l c l.length ∧ leftOf l c = gone l c l.length := by
  unfold left leftOf kept gone
  rw [if_pos ha, if_pos ha, without_owned, List.take_length]
  exact ⟨rfl, rfl⟩
end Op
set_option maxHeartbeats 4000000 in
theorem rleave_any (v : Value) (l : List Opn) (c : Int) (w : World) (hv : AtW EO w v l) :
    Calls Try.prog 17 #[v, .int .i64 c] w fun e w' => ∃ p n q p' n' q', e = .returned (.tuple #[.slice p n q, .slice p' n' q', .int .i64 (Op.ask l c)]) ∧ At EO (fun b => w.heap.size ≤ b) w' (.slice p n q) (Op.left l c) ∧ At EH (fun b => w.heap.size ≤ b) w' (.slice p' n' q') (Op.leftOf l c) ∧ Below w.heap.size w w' := by
  have HV : Hid (AtW EO w v l) := hv
  by_cases ha : Op.ask l c = 0
  · have HR0 : Hid (l.length ≤ 16) := by
      rcases Op.ask_or l c with ⟨_, hr, _⟩ | ⟨h, _⟩ | ⟨h, _⟩
      · exact Op.right_len hr
      · omega
      · omega
    have HA : Hid (Op.ask l c = 0) := ha
    obtain ⟨HE, HO'⟩ : Hid (Op.left l c = Op.kept l c l.length) ∧ Hid (Op.leftOf l c = Op.gone l c l.length) := Op.kept_all ha
    rw [ha]
    obtain ⟨ao, cap, rfl, -, hx⟩ := hv.open
    obtain ⟨n, hn⟩ : ∃ n, l.length = n := ⟨_, rfl⟩
    have HN : Hid (l.length = n) := hn
    rw [hn] at HV HE HO' ⊢
    have HX : Hid (Over w ao l) := hx
    have hn16 : n ≤ 16 := by have := HR0.out; omega
    obtain ⟨j0, hj, hy0, hy1, hy2⟩ := info_parts infoH
    obtain ⟨i0, hi, hz0, hz1, hz2⟩ := info_parts infoO
    clear ha hv hn hx
    go_enter Try.func17, Try.ntmps17
    go_wp2_with fail
    refine (asked_any _ l c _ HV.out).mono ?_
    rintro e w1 ⟨rfl, hb⟩
    rw [HA.out]
    have HB1 : Hid (Below w.heap.size w w1) := hb
    clear hb
    go_wp2
    go_loopw [8, 9, 20] (fun u v i wr => ∃ (k : Nat) (pp : Option Addr) (jj q : Nat) (pp' : Option Addr) (jj' q' : Nat), k ≤ n ∧ i = .int .i64 k ∧ u = .slice pp jj q ∧ v = .slice pp' jj' q' ∧ Hid (Row EO wr w.heap.size 27 (.slice pp jj q) (Op.kept l c k)) ∧ Hid (Row EH wr w.heap.size 24 (.slice pp' jj' q') (Op.gone l c k)) ∧ Hid (Below w.heap.size w wr)) (fun _ _ i _ => n - (intOf i).toNat)
    case atStart => exact ⟨0, none, 0, 0, none, 0, 0, Nat.zero_le _, rfl, rfl, rfl, Row.nil _ _ _ _, Row.nil _ _ _ _, HB1⟩
    case round =>
      obtain ⟨k, pp, jj, q, pp', jj', q', hk, rfl, rfl, rfl, HR, HR', HB⟩ := hrel
      have hsz := HB.out.size
      by_cases hlt : k < n
      · obtain ⟨x, hxk⟩ : ∃ x, l[k]? = some x := ⟨_, List.getElem?_eq_getElem (by rw [HN.out]; exact hlt)⟩
        have HXK : Hid (l[k]? = some x) := hxk
        obtain ⟨b, off, rfl, -, hB, hc⟩ := HX.out k x hxk
        obtain ⟨c0, c1, c2, c3⟩ := opn_cells HB.out hB hc
        clear hc hxk
        have hlt' : (k : Int) < (n : Int) := by omega
        by_cases g : x.2.1 = c
        · obtain ⟨HG, HG'⟩ : Hid (Op.kept l c (k + 1) = Op.kept l c k) ∧ Hid (Op.gone l c (k + 1) = Op.gone l c k ++ [Op.hOf x]) := Op.gone_in HXK.out g
          have g1 : (x.2.1 == c) = true := by simp [g]
          have HLEN : Hid ((Op.gone l c k).length ≤ k) := Op.gone_len l c k
          have HUP : Hid (Below wr.heap.size wr ((wr.alloc (BO x)).alloc (BH x.2.2.1 x.2.2.2))) := ((Below.refl _ _).alloc (Nat.le_refl _) _).alloc (by simp) _
          have HR3 : Hid (Row EH ((wr.alloc (BO x)).alloc (BH x.2.2.1 x.2.2.2)) w.heap.size 24 (.slice pp' jj' q') (Op.gone l c k)) := HR'.out.up HUP.out
          have HR4 : Hid (Row EO ((wr.alloc (BO x)).alloc (BH x.2.2.1 x.2.2.2)) w.heap.size 27 (.slice pp jj q) (Op.kept l c k)) := HR.out.up HUP.out
          have HB4 : Hid (Below w.heap.size w ((wr.alloc (BO x)).alloc (BH x.2.2.1 x.2.2.2))) := (HB.out.alloc hsz _).alloc (by simp; omega) _
          have HO : Hid (AtW EH ((wr.alloc (BO x)).alloc (BH x.2.2.1 x.2.2.2)) (.slice (some ⟨wr.heap.size + 1, 0, none⟩) 1 1) [Op.hOf x]) := by
            have h2 := heap_alloc_new (wr.alloc (BO x)) (BH x.2.2.1 x.2.2.2)
            rw [show (wr.alloc (BO x)).heap.size = wr.heap.size + 1 by simp] at h2
            exact at_oneH h2
          clear g
          go_wp2_with (at_builtin; refine wpList_row _ rfl _ _ 40 rfl EH (fun _ => True) w.heap.size 24 j0 _ 16 Try.underlying40 hj hy0 hy1 hy2 rfl _ (Op.gone l c k) rfl HR3.out _ [Op.hOf x] rfl HO.out (by have := HLEN.out; unfold maxLen; simp only [List.length_cons, List.length_nil]; omega) (by have := HLEN.out; simp only [List.length_cons, List.length_nil]; omega) (by simp; omega) ?_; intro v7 w7 hrow7 hg7 hloc7)
          have HEND : Hid (Row EH w7 w.heap.size 24 v7 (Op.gone l c (k + 1)) ∧ Row EO w7 w.heap.size 27 (.slice pp jj q) (Op.kept l c (k + 1)) ∧ Below w.heap.size w w7) := ⟨by rw [HG'.out]; exact hrow7, by rw [HG.out]; exact HR4.out.kept hg7 (HR4.out.apart HR3.out (by decide)), HB4.out.grown hg7 (by simp; omega) (fun k hk => (HR3.out.lt k hk).1)⟩
          clear hrow7 hg7 hloc7
          obtain ⟨p7, n7, c7, rfl⟩ := HEND.out.1.slice3
          go_wp2
          go_roundw
          case rel => exact ⟨k + 1, pp, jj, q, p7, n7, c7, by omega, by go_num, rfl, rfl, HEND.out.2.1, HEND.out.1, HEND.out.2.2⟩
          case measure => simp [intOf]; omega
        · obtain ⟨HG, HG'⟩ : Hid (Op.kept l c (k + 1) = Op.kept l c k ++ [x]) ∧ Hid (Op.gone l c (k + 1) = Op.gone l c k) := Op.kept_in HXK.out g
          have g1 : (x.2.1 == c) = false := beq_eq_false_iff_ne.2 g
          have HLEN : Hid ((Op.kept l c k).length ≤ k) := Op.kept_len l c k
          have HUP : Hid (Below wr.heap.size wr ((wr.alloc (BO x)).alloc (BO x))) := ((Below.refl _ _).alloc (Nat.le_refl _) _).alloc (by simp) _
          have HR3 : Hid (Row EH ((wr.alloc (BO x)).alloc (BO x)) w.heap.size 24 (.slice pp' jj' q') (Op.gone l c k)) := HR'.out.up HUP.out
          have HR4 : Hid (Row EO ((wr.alloc (BO x)).alloc (BO x)) w.heap.size 27 (.slice pp jj q) (Op.kept l c k)) := HR.out.up HUP.out
          have HB4 : Hid (Below w.heap.size w ((wr.alloc (BO x)).alloc (BO x))) := (HB.out.alloc hsz _).alloc (by simp; omega) _
          have HO : Hid (AtW EO ((wr.alloc (BO x)).alloc (BO x)) (.slice (some ⟨wr.heap.size + 1, 0, none⟩) 1 1) [x]) := at_two wr x
          clear g
          go_wp2_with (at_builtin; refine wpList_row _ rfl _ _ 22 rfl EO (fun _ => True) w.heap.size 27 i0 _ 32 Try.underlying22 hi hz0 hz1 hz2 rfl _ (Op.kept l c k) rfl HR4.out _ [x] rfl HO.out (by have := HLEN.out; unfold maxLen; simp only [List.length_cons, List.length_nil]; omega) (by have := HLEN.out; simp only [List.length_cons, List.length_nil]; omega) (by simp; omega) ?_; intro v7 w7 hrow7 hg7 hloc7)
          have HEND : Hid (Row EO w7 w.heap.size 27 v7 (Op.kept l c (k + 1)) ∧ Row EH w7 w.heap.size 24 (.slice pp' jj' q') (Op.gone l c (k + 1)) ∧ Below w.heap.size w w7) := ⟨by rw [HG.out]; exact hrow7, by rw [HG'.out]; exact HR3.out.kept hg7 (HR3.out.apart HR4.out (by decide)), HB4.out.grown hg7 (by simp; omega) (fun k hk => (HR4.out.lt k hk).1)⟩
          clear hrow7 hg7 hloc7
          obtain ⟨p7, n7, c7, rfl⟩ := HEND.out.1.slice3
          go_wp2
          go_roundw
          case rel => exact ⟨k + 1, p7, n7, c7, pp', jj', q', by omega, by go_num, rfl, rfl, HEND.out.1, HEND.out.2.1, HEND.out.2.2⟩
          case measure => simp [intOf]; omega
      · obtain rfl : k = n := by omega
        go_wp2
        go_ret3
        exact ⟨_, _, _, _, _, _, rfl, by rw [HE.out]; exact HR.out.at, by rw [HO'.out]; exact HR'.out.at, HB.out⟩
  · have HE : Hid (Op.left l c = []) := if_neg ha
    have HO : Hid (Op.leftOf l c = []) := if_neg ha
    obtain ⟨a, haa⟩ : ∃ a, Op.ask l c = a := ⟨_, rfl⟩
    have HA : Hid (Op.ask l c = a) := haa
    rw [haa] at ha ⊢
    have hne : (a == 0) = false := beq_eq_false_iff_ne.2 ha
    clear ha haa hv
    go_enter Try.func17, Try.ntmps17
    go_wp2_with fail
    refine (asked_any _ l c _ HV.out).mono ?_
    rintro e w1 ⟨rfl, hb⟩
    rw [HA.out]
    go_wp2
    go_ret3
    exact ⟨_, _, _, _, _, _, rfl, by rw [HE.out]; exact At.nil, by rw [HO.out]; exact At.nil, hb⟩
end Go.Proofs.Ytlikcijoejgkkaa
