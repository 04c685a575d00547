/-
  itab's with, at any table and place.
-/
import Derived.Test.YtacghcoikekfeaaGreatWith
namespace Go.Proofs.YtacghcoikekfeaaGreat
open Go.ChangeShapes Go.WideShapes Go.ChangeAt Go.RowKit Go.Deep It
set_option maxRecDepth 100000

theorem It.put_get {L : List Rw} {no : Nat} {x : Rw} (h : no ≤ L.length) : pl ((L ++ (List.replicate (max L.length (no + 1)) zeroR).drop L.length).set no x) = put (pl L) no x.i := by
  unfold put
  simp only [pl, List.length_map, List.drop_replicate]
  split
  · rename_i hlt
    rw [show max L.length (no + 1) - L.length = 0 from by omega]
    simp [List.map_set]
  · have : no = L.length := by omega
    subst this
    rw [show max L.length (L.length + 1) - L.length = 1 from by omega]
    simp
theorem Good.keep {S T : Nat → Prop} {w w' : World} {x : Rw} (h : Good S w x) (hs : w.heap.size ≤ w'.heap.size) (hk : ∀ b, S b → b < w.heap.size → w'.heap[b]? = w.heap[b]? ∧ T b) : Good T w' x := ⟨h.1.keep hs hk, h.2.1.keep hs hk, h.2.2⟩
theorem Good.imp {S T : Nat → Prop} {w : World} {x : Rw} (h : Good S w x) (hk : ∀ b, S b → b < w.heap.size → T b) : Good T w x := h.keep (Nat.le_refl _) fun b hb hl => ⟨rfl, hk b hb hl⟩
theorem good_zero (S : Nat → Prop) (w : World) : Good S w zeroR := ⟨.inl ⟨_, _, rfl, rfl⟩, .inl ⟨_, _, rfl, rfl⟩, ⟨fun x hx => (by cases hx), Nat.zero_le _, Nat.zero_le _⟩⟩
theorem setCells_size (g : Nat) : ∀ (vs : List Value) (o : Nat) (W : World), (W.setCells g o vs).heap.size = W.heap.size
  | [], _, _ => rfl
  | v :: vs, o, W => by rw [World.setCells, setCells_size g vs]; simp [World.setCell]
theorem setCells_other {g b : Nat} (hne : b ≠ g) : ∀ (vs : List Value) (o : Nat) (W : World), (W.setCells g o vs).heap[b]? = W.heap[b]?
  | [], _, _ => rfl
  | v :: vs, o, W => by
    rw [World.setCells, setCells_other hne vs]
    exact Below.heap_setCell _ _ _ _ hne
theorem below_cells {B g : Nat} {a : World} (hb : B ≤ g) : ∀ (vs : List Value) (o : Nat) (w : World), Below B a w → Below B a (w.setCells g o vs)
  | [], _, _, h => h
  | v :: vs, o, w, h => by
    rw [World.setCells]
    exact below_cells hb vs (o + 1) _ (h.setCell (p := ⟨g, o, none⟩) hb v)
/-- What holds in each round of with: the row's first k inodes have lists of their own, the others old ones. -/
structure WithAt (w wr : World) (g n k : Nat) (M : List Ino) (R : List Rw) : Prop where
  full : Full wr g R
  len : R.length = n
  pl : It.pl R = M
  new : ∀ j x, j < k → R[j]? = some x → Good (fun b => g < b) wr x
  old : ∀ j x, k ≤ j → R[j]? = some x → Good (fun b => b < w.heap.size) wr x
  below : Below w.heap.size w wr
theorem WithAt.set {w wr w2 : World} {g n k : Nat} {M : List Ino} {R : List Rw} {x x' : Rw} (h : WithAt w wr g n k M R) (hk : k < n) (hgw : w.heap.size ≤ g) (hx : R[k]? = some x) (hi : x'.i = x.i) (hg : Good (fun b => wr.heap.size ≤ b) w2 x') (hb : Below wr.heap.size wr w2) :
    WithAt w (w2.setCells g (k * 8) (EI.cells x')) g n (k + 1) M (R.set k x') := by
  have hgl : g < wr.heap.size := (Array.getElem?_eq_some_iff.1 h.full).1
  have hf2 : Full w2 g R := (hb.block g hgl).trans h.full
  have hsz : (w2.setCells g (k * 8) (EI.cells x')).heap.size = w2.heap.size := setCells_size g _ _ _
  have hother : ∀ b, b < w2.heap.size → b ≠ g → (w2.setCells g (k * 8) (EI.cells x')).heap[b]? = w2.heap[b]? := fun b _ hne => setCells_other hne _ _ _
  have hbs := hb.size
  refine ⟨hf2.set (by have := h.len; omega) x', by rw [List.length_set]; exact h.len, ?_, fun j y hj hy => ?_, fun j y hj hy => ?_, ?_⟩
  · rw [← h.pl]
    simp only [It.pl, List.map_set, hi]
    apply List.ext_getElem?
    intro j
    rw [List.getElem?_set]
    split
    · rename_i e
      subst e
      simp [hx]
      have := h.len
      omega
    · rfl
  · rw [List.getElem?_set] at hy
    split at hy
    · have hy' : x' = y := by simpa [show k < R.length from by have := h.len; omega] using hy
      subst hy'
      exact hg.keep (by omega) fun b hS hl => ⟨hother b hl (by omega), by omega⟩
    · exact ((h.new j y (by omega) hy).up hb).keep (by omega) fun b hS hl => ⟨hother b hl (by omega), hS⟩
  · rw [List.getElem?_set] at hy
    split at hy
    · omega
    · exact ((h.old j y (by omega) hy).up hb).keep (by omega) fun b hS hl => ⟨hother b hl (by omega), hS⟩
  · exact below_cells hgw (EI.cells x') (k * 8) w2 (h.below.trans (hb.mono h.below.size))

theorem At.belowAt {α : Type} {E : Enc α} {w w' : World} {v : Value} {l : List α} {B : Nat} (h : At E (fun b => b < B) w v l) (hb : Below B w w') : At E (fun b => b < B) w' v l := h.keep hb.size fun b hS _ => ⟨hb.block b hS, hS⟩
theorem Good.belowAt {w w' : World} {x : Rw} {B : Nat} (h : Good (fun b => b < B) w x) (hb : Below B w w') : Good (fun b => b < B) w' x := h.keep hb.size fun b hS _ => ⟨hb.block b hS, hS⟩
theorem with_start {w w1 : World} {n : Nat} {o : Obj} (hF : Full w1 (w.alloc o).heap.size (List.replicate n zeroR)) (hg : (w.alloc o).grownBy w1 none) (hb : Below w.heap.size w (w.alloc o)) :
    WithAt w w1 (w.heap.size + 1) n 0 (pl (List.replicate n zeroR)) (List.replicate n zeroR) ∧ w1.heap[w.heap.size]? = some o := by
  have hs : (w.alloc o).heap.size = w.heap.size + 1 := by simp
  rw [hs] at hF
  refine ⟨⟨hF, by simp, rfl, fun j x hj => by omega, fun j x _ hx => ?_, hb.trans (below_none hg (by omega))⟩, (hg.block _ (by omega) (by simp)).trans (heap_alloc_new _ _)⟩
  have := List.mem_of_getElem? hx
  rw [List.eq_of_mem_replicate this]
  exact good_zero _ _
theorem with_copy {w w1 w2 : World} {n : Nat} {v : Value} {L : List Rw} {o : Obj} (hF : Full w2 (w.heap.size + 1) (L ++ (List.replicate n zeroR).drop L.length)) (hg : w1.grownBy w2 (some (w.heap.size + 1)))
    (h1 : WithAt w w1 (w.heap.size + 1) n 0 (pl (List.replicate n zeroR)) (List.replicate n zeroR) ∧ w1.heap[w.heap.size]? = some o) (hv : TabAt (fun b => b < w.heap.size) w v L) (hle : L.length ≤ n) :
    Hid (WithAt w w2 (w.heap.size + 1) n 0 (pl (L ++ (List.replicate n zeroR).drop L.length)) (L ++ (List.replicate n zeroR).drop L.length)) ∧ Hid (w2.heap[w.heap.size]? = some o) ∧ Hid (Below w.heap.size w w2) := by
  have hb : Below w.heap.size w w2 := h1.1.below.grown hg h1.1.below.size (fun k hk => by simp at hk; omega)
  refine ⟨⟨hF, by simp; omega, rfl, fun j x hj => by omega, fun j x _ hx => ?_, hb⟩, (hg.block _ (Array.getElem?_eq_some_iff.1 h1.2).1 (by simp)).trans h1.2, hb⟩
  have hm := List.mem_of_getElem? hx
  rcases List.mem_append.1 hm with hm | hm
  · exact (hv.2 x hm).belowAt hb
  · have := List.mem_of_mem_drop hm
    rw [List.eq_of_mem_replicate this]
    exact good_zero _ _
theorem with_put {w w2 : World} {n no : Nat} {M : List Ino} {R : List Rw} {x : Rw} (h : WithAt w w2 (w.heap.size + 1) n 0 M R) (hno : no < n) (hx : Good (fun b => b < w.heap.size) w x) :
    ∃ w3, w3 = w2.setCells (w.heap.size + 1) (no * 8) (EI.cells x) ∧ Hid (WithAt w w3 (w.heap.size + 1) n 0 (pl (R.set no x)) (R.set no x)) := by
  refine ⟨_, rfl, ⟨h.full.set (by rw [h.len]; exact hno) x, by rw [List.length_set]; exact h.len, rfl, fun j y hj => by omega, fun j y _ hy => ?_, below_cells (by omega) _ _ _ h.below⟩⟩
  have hk : ∀ y, Good (fun b => b < w.heap.size) w2 y → Good (fun b => b < w.heap.size) (w2.setCells (w.heap.size + 1) (no * 8) (EI.cells x)) y := fun y hy =>
    hy.keep (by rw [setCells_size]; exact Nat.le_refl _) fun b hS _ => ⟨setCells_other (by omega) _ _ _, hS⟩
  rw [List.getElem?_set] at hy
  split at hy
  · have hy' : x = y := by simpa [show no < R.length from by rw [h.len]; exact hno] using hy
    subst hy'
    exact hk x (hx.belowAt h.below)
  · exact hk y (h.old j y (Nat.zero_le _) hy)
theorem WithAt.tab {w wr : World} {g n : Nat} {M : List Ino} {R : List Rw} (h : WithAt w wr g n n M R) (hg : w.heap.size ≤ g) (hn : n ≤ 25) : TabAt (fun b => w.heap.size ≤ b) wr (.slice (some ⟨g, 0, none⟩) n n) R := by
  have hgl : g < wr.heap.size := (Array.getElem?_eq_some_iff.1 h.full).1
  have hl := h.len
  refine ⟨?_, fun y hy => ?_⟩
  · by_cases hp : 0 < n
    · refine .inr ⟨g, 0, n, by rw [hl], hg, hgl, by omega, by omega, by unfold maxLen; omega, fun j u hj => ?_⟩
      have := h.full
      unfold Full at this
      simp [World.cell?, this, hj]
    · have h0 : R = [] := List.eq_nil_of_length_eq_zero (by omega)
      exact .inl ⟨_, _, by rw [show n = 0 by omega], h0⟩
  · obtain ⟨j, hj⟩ := List.mem_iff_getElem?.1 hy
    have hjl : j < R.length := (List.getElem?_eq_some_iff.1 hj).1
    exact (h.new j y (by omega) hj).imp fun b hb _ => by omega
set_option maxHeartbeats 2000000 in
set_option maxRecDepth 100000 in
theorem with_any {S : Nat → Prop} (v : Value) (L : List Rw) (no : Nat) (x : Rw) (w : World) (hv : TabAt S w v L) (hx : Good S w x) (hL : L.length ≤ 24) (hno : no ≤ L.length) :
    Calls Tryz.prog 83 #[v, .int .i64 no, VI x] w fun e w' => ∃ u L', e = .returned u ∧ TabAt (fun b => w.heap.size ≤ b) w' u L' ∧ pl L' = put (pl L) no x.i ∧ Below w.heap.size w w' := by
  obtain ⟨i0, hi, hz0, hz1, hz2⟩ := info_parts infoI
  have HP := It.put_get (x := x) hno
  have hv0 : TabAt (fun b => b < w.heap.size) w v L := ⟨hv.1.imp fun b _ hb => hb, fun y hy => (hv.2 y hy).imp fun b _ hb => hb⟩
  have hx0 : Good (fun b => b < w.heap.size) w x := hx.imp fun b _ hb => hb
  obtain ⟨ao, cap, rfl, _, _⟩ := hv.open
  obtain ⟨n, hn⟩ : ∃ n, max L.length (no + 1) = n := ⟨_, rfl⟩
  have hmx : max (L.length : Int) ((no : Int) + 1) = (n : Int) := by omega
  have HL : Hid (L.length ≤ n ∧ no < n ∧ n ≤ 25 ∧ no ≤ L.length) := ⟨by omega, by omega, by omega, hno⟩
  rw [hn] at HP
  obtain ⟨m, hm⟩ : ∃ m, L.length = m := ⟨_, rfl⟩
  have HM : Hid (L.length = m) := hm
  rw [hm] at hmx ⊢
  rw [hm] at hv0
  have HV : Hid (TabAt (fun b => b < w.heap.size) w (.slice ao m cap) L) := hv0
  have HX : Hid (Good (fun b => b < w.heap.size) w x) := hx0
  have HPP : Hid (pl ((L ++ (List.replicate n zeroR).drop L.length).set no x) = put (pl L) no x.i) := HP
  obtain ⟨⟨g, k, l, s, t, rs, es, nx⟩, rp, rn, rc, ep, en, ec⟩ := x
  have HBW : Hid (Below w.heap.size w (w.alloc (B8 g k l s t (.slice rp rn rc) (.slice ep en ec) nx))) := (Below.refl _ w).alloc (Nat.le_refl _) _
  have hcase : (no < m ∧ Hid (n = m)) ∨ (m ≤ no ∧ Hid (n = no + 1)) := by
    rcases Nat.lt_or_ge no m with h | h
    · exact .inl ⟨h, show n = m by omega⟩
    · exact .inr ⟨by omega, show n = no + 1 by omega⟩
  have hm24 : m ≤ 24 := by omega
  have hno25 : no ≤ 25 := by omega
  have hn25 : n ≤ 25 := by omega
  have hnon : (no : Int) < (n : Int) := by omega
  clear hv hx hv0 hx0 HP hm hn hno hL hmx
  rcases hcase with ⟨hlt, HNM⟩ | ⟨hlt, HNM⟩
  all_goals
    go_enter Tryz.func83, Tryz.ntmps83
    go_wp2_with (first
      | (at_make
         refine wpList_make_tab _ rfl _ _ 22 rfl i0 Tryz.underlying22 hi hz0 hz1 hz2 _ _ n rfl rfl (by have := HNM.out; omega) (by have := HNM.out; omega) HL.out.2.2.1 ?_
         intro w1 hF1 hg1
         have HW1 : Hid (WithAt w w1 (w.heap.size + 1) n 0 (pl (List.replicate n zeroR)) (List.replicate n zeroR) ∧ w1.heap[w.heap.size]? = some (B8 g k l s t (.slice rp rn rc) (.slice ep en ec) nx)) := with_start hF1 hg1 HBW.out)
      | (refine wpList_copy_tab _ rfl _ _ 22 rfl i0 Tryz.underlying22 hi hz1 (w.heap.size + 1) n n rfl _ rfl (fun b => b < w.heap.size) L (List.replicate n zeroR) (HV.out.1.belowAt HW1.out.1.below) HW1.out.1.full HW1.out.1.len HL.out.1 ?_
         intro w2 m2 hF2 hg2
         obtain ⟨HW2, HX2, HL2⟩ := with_copy hF2 hg2 HW1.out HV.out HL.out.1
         obtain ⟨q0, q1, q2, q3, q4, q5, q6, q7⟩ := (eight_of HX2.out).1)
      | (refine wpList_store_mid rfl 65 _ _ rfl (w.heap.size + 1) (no * 8) #[.int .i64 g, .int .i64 k, .int .i64 l, .int .i64 s, .int .i64 t, .slice rp rn rc, .slice ep en ec, .int .i64 nx] rfl rfl (HW2.out.full.there (by rw [HW2.out.len]; exact HL.out.2.1)) (by kernel_rfl) (all_oneCell_toArray (EI.one ⟨⟨g, k, l, s, t, rs, es, nx⟩, rp, rn, rc, ep, en, ec⟩)) ?_
         obtain ⟨w3, hw3, HW3⟩ := with_put HW2.out HL.out.2.1 HX.out
         rw [show (#[Value.int .i64 g, .int .i64 k, .int .i64 l, .int .i64 s, .int .i64 t, .slice rp rn rc, .slice ep en ec, .int .i64 nx] : Array Value).toList = EI.cells ⟨⟨g, k, l, s, t, rs, es, nx⟩, rp, rn, rc, ep, en, ec⟩ from rfl, ← hw3]
         clear hw3 HW1 HW2 HX2 HL2 hF1 hg1 hF2 hg2 q0 q1 q2 q3 q4 q5 q6 q7))
    go_loopw [24] (fun i wr => ∃ (j : Nat) (R : List Rw), j ≤ n ∧ i = .int .i64 j ∧ Hid (WithAt w wr (w.heap.size + 1) n j (pl ((L ++ (List.replicate n zeroR).drop L.length).set no ⟨⟨g, k, l, s, t, rs, es, nx⟩, rp, rn, rc, ep, en, ec⟩)) R)) (fun i _ => n - (intOf i).toNat)
    case atStart => exact ⟨0, _, Nat.zero_le _, rfl, HW3⟩
    case round =>
      obtain ⟨j, R, hj, rfl, HR⟩ := hrel
      by_cases hjn : j < n
      · obtain ⟨y, hy⟩ : ∃ y, R[j]? = some y := ⟨_, List.getElem?_eq_getElem (by rw [HR.out.len]; exact hjn)⟩
        have HY : Hid (R[j]? = some y) := hy
        obtain ⟨c0, c1, c2, c3, c4, c5, c6, c7⟩ := HR.out.full.at hy
        have HGY : Hid (Good (fun b => b < w.heap.size) wr y) := HR.out.old j y (Nat.le_refl _) hy
        have hjI : (j : Int) < (n : Int) := by omega
        clear hy
        go_wp2_with (first
          | (go_at_call 119
             refine (own_any y _ HGY.out).mono ?_
             rintro e w4 ⟨y', rfl, hyi, hyg, hb4⟩
             have HW4 : Hid (WithAt w (w4.setCells (w.heap.size + 1) (j * 8) (EI.cells y')) (w.heap.size + 1) n (j + 1) (pl ((L ++ (List.replicate n zeroR).drop L.length).set no ⟨⟨g, k, l, s, t, rs, es, nx⟩, rp, rn, rc, ep, en, ec⟩)) (R.set j y')) := HR.out.set hjn (by omega) HY.out hyi hyg hb4
             have HF4 : Hid (w4.there (w.heap.size + 1) (j * 8) 8) := Full.there ((hb4.block _ (Array.getElem?_eq_some_iff.1 HR.out.full).1).trans HR.out.full) (by rw [HR.out.len]; exact hjn)
             clear hyi hyg hb4)
          | (refine wpList_store_mid rfl 65 _ _ rfl (w.heap.size + 1) (j * 8) #[.int .i64 y'.i.gen, .int .i64 y'.i.kind, .int .i64 y'.i.links, .int .i64 y'.i.size, .int .i64 y'.i.stamp, .slice y'.rp y'.rn y'.rc, .slice y'.ep y'.en y'.ec, .int .i64 y'.i.next] rfl rfl HF4.out (by kernel_rfl) (all_oneCell_toArray (EI.one y')) ?_
             rw [show (#[.int .i64 y'.i.gen, .int .i64 y'.i.kind, .int .i64 y'.i.links, .int .i64 y'.i.size, .int .i64 y'.i.stamp, .slice y'.rp y'.rn y'.rc, .slice y'.ep y'.en y'.ec, .int .i64 y'.i.next] : Array Value).toList = EI.cells y' from rfl]
             generalize w4.setCells (w.heap.size + 1) (j * 8) (EI.cells y') = w5 at HW4))
        go_roundw
        case rel => exact ⟨j + 1, _, by omega, by go_num, HW4⟩
        case measure => simp [intOf]; omega
      · obtain rfl : j = n := by omega
        go_wp2
        go_ret
        refine ⟨_, R, rfl, HR.out.tab (by omega) HL.out.2.2.1, by rw [HR.out.pl]; exact HPP.out, HR.out.below⟩
end Go.Proofs.YtacghcoikekfeaaGreat
