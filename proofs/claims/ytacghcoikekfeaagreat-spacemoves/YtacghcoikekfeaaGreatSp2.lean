/-
  Spaces' folders; space.rightFolders; the greatest stamp: space.refuse's loop. What they answer.
-/
import Derived.Test.YtacghcoikekfeaaGreatSp1
namespace Go.Proofs.YtacghcoikekfeaaGreat
open Go.ChangeShapes Go.WideShapes Go.ChangeAt Go.RowKit Go.Deep It
set_option maxRecDepth 100000
namespace Sp
/-- A folder's entries are right, and as many as its size. -/
def fold (x : Ino) : Prop := x.kind = 2 → Fo.Right x.ents x.next ∧ x.size = x.ents.length
/-- All folders are so. -/
def folds (L : List Ino) : Prop := ∀ x ∈ L, fold x
open Classical in
noncomputable def foldsB (L : List Ino) : Bool := decide (folds L)
open Classical in
theorem foldsB_yes {L : List Ino} (h : folds L) : foldsB L = true := by
  unfold foldsB
  exact decide_eq_true h
open Classical in
theorem foldsB_no {L : List Ino} (h : ¬ folds L) : foldsB L = false := by
  unfold foldsB
  exact decide_eq_false h
/-- Names that can be. -/
def okN (L : List Rw) : Prop := ∀ x ∈ L, ∀ e ∈ x.i.ents, e.1.size ≤ maxLen
end Sp
theorem eight_block {w wr : World} {b o : Nat} {x : Rw} (h : eight w b o x) (hb : Below w.heap.size w wr) (hB : b < w.heap.size) : eight wr b o x := h.below hb hB
set_option maxHeartbeats 4000000 in
theorem rightFolders_any {S : Nat → Prop} (v : Value) (L : List Rw) (w : World) (hv : TabAt S w v L) (hok : Sp.okN L) :
    Calls Tryz.prog 32 #[v] w fun e w' => e = .returned (.bool (Sp.foldsB (pl L))) ∧ Below w.heap.size w w' := by
  obtain ⟨ao, cap, rfl, hm, hx⟩ := hv.open
  clear hv
  unfold maxLen at hm
  obtain ⟨n, hn⟩ : ∃ n, L.length = n := ⟨_, rfl⟩
  rw [hn] at hm ⊢
  have HN : Hid (L.length = n) := hn
  have HX : Hid (∀ i x, L[i]? = some x → (∃ b off, ao = some ⟨b, off, none⟩ ∧ b < w.heap.size ∧ eight w b (off + i * 8) x) ∧ Good S w x) := hx
  have HOK : Hid (Sp.okN L) := hok
  obtain ⟨r, hr⟩ : ∃ r, Sp.foldsB (pl L) = r := ⟨_, rfl⟩
  rw [hr]
  have HR : Hid (Sp.foldsB (pl L) = r) := hr
  clear hn hx hr hok
  go_enter Tryz.func32, Tryz.ntmps32
  go_wp2
  go_loopw [7] (fun i wr => ∃ k : Nat, k ≤ n ∧ i = .int .i64 k ∧ Hid (∀ y ∈ L.take k, Sp.fold y.i) ∧ Hid (Below w.heap.size w wr)) (fun i _ => n - (intOf i).toNat)
  case atStart => exact ⟨0, Nat.zero_le _, rfl, fun y hy => (by simp at hy), Below.refl _ _⟩
  case round =>
    obtain ⟨k, hk, rfl, HP, HB⟩ := hrel
    have hsz := HB.out.size
    by_cases hlt : k < n
    · obtain ⟨x, hxk⟩ : ∃ x, L[k]? = some x := ⟨_, List.getElem?_eq_getElem (by rw [HN.out]; exact hlt)⟩
      have HXK : Hid (L[k]? = some x) := hxk
      obtain ⟨⟨b, off, rfl, hB, hc⟩, hg⟩ := HX.out k x hxk
      obtain ⟨c0, c1, c2, c3, c4, c5, c6, c7⟩ := hc.below HB.out hB
      have HG : Hid (Good S (wr.alloc (BIx x)) x) := (hg.up HB.out).up ((Below.refl _ _).alloc (Nat.le_refl _) _)
      have HSM : Hid (∀ e ∈ x.i.ents, e.1.size ≤ maxLen) := HOK.out x (List.mem_of_getElem? hxk)
      have hlt' : (k : Int) < (n : Int) := by omega
      have HB1 : Hid (Below w.heap.size w (wr.alloc (BIx x))) := HB.out.alloc hsz _
      have HEN : Hid (x.en = x.i.ents.length) := hg.len.2
      have HSUC : Hid (Sp.fold x.i → ∀ y ∈ L.take (k + 1), Sp.fold y.i) := fun h y hy => by
        rw [List.take_add_one, HXK.out] at hy
        rcases List.mem_append.1 hy with hy | hy
        · exact HP.out y hy
        · simp at hy
          subst hy
          exact h
      have HBAD : Hid (¬ Sp.fold x.i → r = false) := fun h => by
        rw [← HR.out]
        exact Sp.foldsB_no fun ha => h (ha x.i (List.mem_map_of_mem (List.mem_of_getElem? HXK.out)))
      obtain ⟨⟨q0, q1, q2, q3, q4, q5, q6, q7⟩, -⟩ := eight_of (heap_alloc_new wr (BIx x))
      clear hc hg hxk
      by_cases hkd : x.i.kind = 2
      · have hk2 : (x.i.kind == 2) = true := by simp [hkd]
        rcases Fo.err_or x.i.ents x.i.next with ⟨he, hrt⟩ | ⟨he, hrt⟩
        · have HE : Hid (Fo.err x.i.ents x.i.next = 0) := he
          by_cases hs : x.i.size = (x.en : Int)
          · have HY : Hid (∀ y ∈ L.take (k + 1), Sp.fold y.i) := HSUC.out fun _ => ⟨hrt, by rw [hs, HEN.out]⟩
            have hs1 : (x.i.size != (x.en : Int)) = false := by simp [hs]
            clear he hrt hs hkd
            go_wp2_with fail
            refine (isDir_any x _).mono ?_
            rintro e w2 ⟨rfl, hw2⟩
            rw [hk2]
            have hb2 : Below (wr.alloc (BIx x)).heap.size (wr.alloc (BIx x)) w2 := by rw [hw2]; exact (Below.refl _ _).alloc (Nat.le_refl _) _
            have HB2 : Hid (Below w.heap.size w w2) := HB1.out.trans (hb2.mono HB1.out.size)
            have HG2 : Hid (Good S w2 x) := HG.out.up hb2
            have HX2 : Hid (w2.heap[wr.heap.size]? = some (BIx x)) := (hb2.block _ (by simp)).trans (heap_alloc_new wr (BIx x))
            clear hw2 hb2 q0 q1 q2 q3 q4 q5 q6 q7
            obtain ⟨⟨q0, q1, q2, q3, q4, q5, q6, q7⟩, -⟩ := eight_of HX2.out
            go_wp2_with fail
            refine (dirOf_any x _).mono ?_
            rintro e w3 ⟨rfl, hb3⟩
            have HB3 : Hid (Below w.heap.size w w3) := HB2.out.trans (hb3.mono HB2.out.size)
            have HG3 : Hid (Good S w3 x) := HG2.out.up hb3
            have HX3 : Hid (w3.heap[wr.heap.size]? = some (BIx x)) := (hb3.block _ (Array.getElem?_eq_some_iff.1 HX2.out).1).trans HX2.out
            clear hb3 q0 q1 q2 q3 q4 q5 q6 q7
            go_wp2_with fail
            refine (fcheck_any _ x.i.ents x.i.next _ HG3.out.2.1.wide HSM.out).mono ?_
            rintro e w4 ⟨rfl, hb4⟩
            rw [HE.out]
            have HB4 : Hid (Below w.heap.size w w4) := HB3.out.trans (hb4.mono HB3.out.size)
            obtain ⟨⟨q0, q1, q2, q3, q4, q5, q6, q7⟩, -⟩ := eight_of ((hb4.block _ (Array.getElem?_eq_some_iff.1 HX3.out).1).trans HX3.out)
            clear hb4
            go_wp2
            go_roundw
            case rel => exact ⟨k + 1, by omega, by go_num, HY, HB4⟩
            case measure => simp [intOf]; omega
          · have H : Hid (r = false) := HBAD.out fun h => hs (by rw [(h hkd).2, HEN.out])
            have hs1 : (x.i.size != (x.en : Int)) = true := by simp [hs]
            clear he hrt hs hkd
            go_wp2_with fail
            refine (isDir_any x _).mono ?_
            rintro e w2 ⟨rfl, hw2⟩
            rw [hk2]
            have hb2 : Below (wr.alloc (BIx x)).heap.size (wr.alloc (BIx x)) w2 := by rw [hw2]; exact (Below.refl _ _).alloc (Nat.le_refl _) _
            have HB2 : Hid (Below w.heap.size w w2) := HB1.out.trans (hb2.mono HB1.out.size)
            have HG2 : Hid (Good S w2 x) := HG.out.up hb2
            have HX2 : Hid (w2.heap[wr.heap.size]? = some (BIx x)) := (hb2.block _ (by simp)).trans (heap_alloc_new wr (BIx x))
            clear hw2 hb2 q0 q1 q2 q3 q4 q5 q6 q7
            obtain ⟨⟨q0, q1, q2, q3, q4, q5, q6, q7⟩, -⟩ := eight_of HX2.out
            go_wp2_with fail
            refine (dirOf_any x _).mono ?_
            rintro e w3 ⟨rfl, hb3⟩
            have HB3 : Hid (Below w.heap.size w w3) := HB2.out.trans (hb3.mono HB2.out.size)
            have HG3 : Hid (Good S w3 x) := HG2.out.up hb3
            have HX3 : Hid (w3.heap[wr.heap.size]? = some (BIx x)) := (hb3.block _ (Array.getElem?_eq_some_iff.1 HX2.out).1).trans HX2.out
            clear hb3 q0 q1 q2 q3 q4 q5 q6 q7
            go_wp2_with fail
            refine (fcheck_any _ x.i.ents x.i.next _ HG3.out.2.1.wide HSM.out).mono ?_
            rintro e w4 ⟨rfl, hb4⟩
            rw [HE.out]
            have HB4 : Hid (Below w.heap.size w w4) := HB3.out.trans (hb4.mono HB3.out.size)
            obtain ⟨⟨q0, q1, q2, q3, q4, q5, q6, q7⟩, -⟩ := eight_of ((hb4.block _ (Array.getElem?_eq_some_iff.1 HX3.out).1).trans HX3.out)
            clear hb4
            go_wp2
            go_ret
            rw [H.out]
            exact ⟨rfl, HB4.out⟩
        · have HE : Hid (Fo.err x.i.ents x.i.next = 4) := he
          have H : Hid (r = false) := HBAD.out fun h => hrt (h hkd).1
          clear he hrt hkd
          go_wp2_with fail
          refine (isDir_any x _).mono ?_
          rintro e w2 ⟨rfl, hw2⟩
          rw [hk2]
          have hb2 : Below (wr.alloc (BIx x)).heap.size (wr.alloc (BIx x)) w2 := by rw [hw2]; exact (Below.refl _ _).alloc (Nat.le_refl _) _
          have HB2 : Hid (Below w.heap.size w w2) := HB1.out.trans (hb2.mono HB1.out.size)
          have HG2 : Hid (Good S w2 x) := HG.out.up hb2
          have HX2 : Hid (w2.heap[wr.heap.size]? = some (BIx x)) := (hb2.block _ (by simp)).trans (heap_alloc_new wr (BIx x))
          clear hw2 hb2 q0 q1 q2 q3 q4 q5 q6 q7
          obtain ⟨⟨q0, q1, q2, q3, q4, q5, q6, q7⟩, -⟩ := eight_of HX2.out
          go_wp2_with fail
          refine (dirOf_any x _).mono ?_
          rintro e w3 ⟨rfl, hb3⟩
          have HB3 : Hid (Below w.heap.size w w3) := HB2.out.trans (hb3.mono HB2.out.size)
          have HG3 : Hid (Good S w3 x) := HG2.out.up hb3
          have HX3 : Hid (w3.heap[wr.heap.size]? = some (BIx x)) := (hb3.block _ (Array.getElem?_eq_some_iff.1 HX2.out).1).trans HX2.out
          clear hb3 q0 q1 q2 q3 q4 q5 q6 q7
          go_wp2_with fail
          refine (fcheck_any _ x.i.ents x.i.next _ HG3.out.2.1.wide HSM.out).mono ?_
          rintro e w4 ⟨rfl, hb4⟩
          rw [HE.out]
          have HB4 : Hid (Below w.heap.size w w4) := HB3.out.trans (hb4.mono HB3.out.size)
          obtain ⟨⟨q0, q1, q2, q3, q4, q5, q6, q7⟩, -⟩ := eight_of ((hb4.block _ (Array.getElem?_eq_some_iff.1 HX3.out).1).trans HX3.out)
          clear hb4
          go_wp2
          go_ret
          rw [H.out]
          exact ⟨rfl, HB4.out⟩
      · have hk2 : (x.i.kind == 2) = false := beq_eq_false_iff_ne.2 hkd
        have HY : Hid (∀ y ∈ L.take (k + 1), Sp.fold y.i) := HSUC.out fun h => absurd h hkd
        clear hkd
        go_wp2_with fail
        refine (isDir_any x _).mono ?_
        rintro e w2 ⟨rfl, rfl⟩
        have HB2 : Hid (Below w.heap.size w ((wr.alloc (BIx x)).alloc (BIx x))) := HB1.out.alloc HB1.out.size _
        rw [hk2]
        go_wp2
        go_roundw
        case rel => exact ⟨k + 1, by omega, by go_num, HY, HB2⟩
        case measure => simp [intOf]; omega
    · obtain rfl : k = n := by omega
      have H : Hid (r = true) := by
        rw [← HR.out]
        refine Sp.foldsB_yes fun y hy => ?_
        obtain ⟨x, hx, rfl⟩ := List.mem_map.1 hy
        exact HP.out x (by rw [← HN.out, List.take_length]; exact hx)
      go_wp2
      go_ret
      rw [H.out]
      exact ⟨rfl, HB.out⟩
end Go.Proofs.YtacghcoikekfeaaGreat
