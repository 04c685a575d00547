/-
  space.put, remove, add: what they answer.
-/
import Derived.Test.YtacghcoikekfeaaGreatSp4
import Derived.Test.YtacghcoikekfeaaGreatFAdd
import Derived.Test.YtacghcoikekfeaaGreatFRem
namespace Go.Proofs.YtacghcoikekfeaaGreat
open Go.ChangeShapes Go.WideShapes Go.ChangeAt Go.RowKit Go.Deep It
set_option maxRecDepth 100000
/-- A folder with other entries. -/
def Sp.filled (x : Ino) (es : List Ent) (nx st : Int) : Ino := ⟨x.gen, x.kind, x.links, es.length, st, x.runs, es, nx⟩
theorem good_filled {S T : Nat → Prop} {w : World} {x : Rw} (h : Good S w x) {dp : Option Addr} {dn dc : Nat} {es : List Ent} (hd : At EE T w (.slice dp dn dc) es) (hl : es.length ≤ 3518437208883) (nx st : Int) :
    GoodW w ⟨Sp.filled x.i es nx st, x.rp, x.rn, x.rc, dp, dn, dc⟩ := ⟨h.1.wide, hd.wide, h.2.2.1, h.2.2.2.1, hl⟩
theorem cellO {w : World} {a b : Addr} {v : Value} (h : a ≠ b) : (w.setCell a v).cell? b = w.cell? b := World.cell?_setCell_other (h := h) ..
theorem cellS {w : World} {a : Addr} {u v : Value} (h : w.cell? a = some u) : (w.setCell a v).cell? a = some v := World.cell?_setCell_same (h := h) ..
theorem frozen_block {w w' : World} {b j : Nat} (h : w'.heap[b]? = w.heap[b]?) : w'.frozen? ⟨b, j, none⟩ = w.frozen? ⟨b, j, none⟩ := by simp only [World.frozen?, h]
theorem ents_set {W : World} {X : Nat} {x : Rw} {v : Value} {n : Int} (h : eight W X 0 x) (hf : ∀ j, W.frozen? ⟨X, j, none⟩ = false) :
    let W2 := ((W.setCell ⟨X, 6, none⟩ v).setCell ⟨X, 7, none⟩ (.int .i64 n)).drew
    (W2.cell? ⟨X, 0, none⟩ = some (.int .i64 x.i.gen) ∧ W2.cell? ⟨X, 1, none⟩ = some (.int .i64 x.i.kind) ∧ W2.cell? ⟨X, 2, none⟩ = some (.int .i64 x.i.links) ∧ W2.cell? ⟨X, 3, none⟩ = some (.int .i64 x.i.size) ∧
      W2.cell? ⟨X, 4, none⟩ = some (.int .i64 x.i.stamp) ∧ W2.cell? ⟨X, 5, none⟩ = some (.slice x.rp x.rn x.rc) ∧ W2.cell? ⟨X, 6, none⟩ = some v ∧ W2.cell? ⟨X, 7, none⟩ = some (.int .i64 n)) ∧ ∀ j, W2.frozen? ⟨X, j, none⟩ = false := by
  obtain ⟨h0, h1, h2, h3, h4, h5, h6, h7⟩ := h
  simp only [Nat.zero_add] at h0 h1 h2 h3 h4 h5 h6 h7
  have o : ∀ j u, j ≠ 6 → j ≠ 7 → W.cell? ⟨X, j, none⟩ = some u → (((W.setCell ⟨X, 6, none⟩ v).setCell ⟨X, 7, none⟩ (.int .i64 n)).drew).cell? ⟨X, j, none⟩ = some u := fun j u a b hj => by
    show ((W.setCell ⟨X, 6, none⟩ v).setCell ⟨X, 7, none⟩ (.int .i64 n)).cell? ⟨X, j, none⟩ = some u
    exact (cellO (by simp <;> omega)).trans ((cellO (by simp <;> omega)).trans hj)
  have e7 : (W.setCell ⟨X, 6, none⟩ v).cell? ⟨X, 7, none⟩ = some (.int .i64 x.i.next) := (cellO (by simp)).trans h7
  refine ⟨⟨o 0 _ (by decide) (by decide) h0, o 1 _ (by decide) (by decide) h1, o 2 _ (by decide) (by decide) h2, o 3 _ (by decide) (by decide) h3, o 4 _ (by decide) (by decide) h4, o 5 _ (by decide) (by decide) h5, ?_, ?_⟩, fun j => ?_⟩
  · show ((W.setCell ⟨X, 6, none⟩ v).setCell ⟨X, 7, none⟩ (.int .i64 n)).cell? ⟨X, 6, none⟩ = some v
    exact (cellO (by simp)).trans (cellS h6)
  · exact cellS e7
  · show ((W.setCell ⟨X, 6, none⟩ v).setCell ⟨X, 7, none⟩ (.int .i64 n)).frozen? ⟨X, j, none⟩ = false
    simp only [World.frozen?_setCell]
    exact hf j
set_option maxHeartbeats 2000000 in
theorem sput_any {S T : Nat → Prop} (v : Value) (L : List Rw) (k : Nat) (b nx st : Int) (x : Rw) (dp : Option Addr) (dn dc : Nat) (es : List Ent) (w : World) (hv : TabAt S w v L) (hk : L[k]? = some x) (hd : At EE T w (.slice dp dn dc) es) (hl : es.length ≤ 3518437208883)
    (he : At.growErr x.i.kind x.i.links x.i.size x.i.stamp es.length st = 0) :
    Calls Tryz.prog 85 #[v, .agg #[.int .i64 k, .int .i64 b], VD (.slice dp dn dc) nx, .int .i64 st] w fun e w' => ∃ u L', e = .returned u ∧ TabAt (fun b => w.heap.size ≤ b) w' u L' ∧ pl L' = putTab (pl L) k b (Sp.filled x.i es nx st) ∧ Below w.heap.size w w' := by
  have HV : Hid (TabAt S w v L) := hv
  have HD : Hid (At EE T w (.slice dp dn dc) es) := hd
  have HL : Hid (es.length ≤ 3518437208883) := hl
  obtain ⟨ao, cap, rfl, hm, hx⟩ := hv.open
  obtain ⟨⟨bb, off, rfl, hB, c0, c1, c2, c3, c4, c5, c6, c7⟩, hg⟩ := hx k x hk
  have hkl : (k : Int) < (L.length : Int) := by have := (List.getElem?_eq_some_iff.1 hk).1; omega
  have HG : Hid (Good S w x) := hg
  have hdn : dn = es.length := by
    obtain ⟨_, _, h, _⟩ := hd.open
    simp only [Value.slice.injEq] at h
    exact h.2.1
  rw [← hdn] at he
  have HE : Hid (At.growErr x.i.kind x.i.links x.i.size x.i.stamp dn st = 0 ∧ At.growOut x.i.kind x.i.links x.i.size x.i.stamp dn st = VA x.i.kind x.i.links dn st) := ⟨he, by unfold At.growOut; rw [if_pos he]⟩
  have HDN : Hid (dn = es.length) := hdn
  unfold maxLen at hm
  obtain ⟨m, hm'⟩ : ∃ m, L.length = m := ⟨_, rfl⟩
  rw [hm'] at HV hm hkl ⊢
  clear hv hx hg he hk hm' hd hl hdn
  obtain ⟨W, hW⟩ : ∃ W, W = ((w.alloc (BH k b)).alloc (BD (.slice dp dn dc) nx)).alloc (BIx x) := ⟨_, rfl⟩
  have HB0 : Hid (Below w.heap.size w W) := by show Below w.heap.size w W; rw [hW]; exact (((Below.refl _ w).alloc (Nat.le_refl _) _).alloc (by simp) _).alloc (by simp; omega) _
  have HA0 : Hid (W.heap[w.heap.size]? = some (BH k b) ∧ W.heap[w.heap.size + 1]? = some (BD (.slice dp dn dc) nx) ∧ W.heap[w.heap.size + 2]? = some (BIx x)) := by
    have h1 := heap_alloc_new (w.alloc (BH k b)) (BD (.slice dp dn dc) nx)
    have h2 := heap_alloc_new ((w.alloc (BH k b)).alloc (BD (.slice dp dn dc) nx)) (BIx x)
    rw [show (w.alloc (BH k b)).heap.size = w.heap.size + 1 by simp] at h1
    rw [show ((w.alloc (BH k b)).alloc (BD (.slice dp dn dc) nx)).heap.size = w.heap.size + 2 by simp] at h2
    rw [hW]
    exact ⟨(Below.heap_alloc _ _ _ (by simp; omega)).trans ((Below.heap_alloc _ _ _ (by simp)).trans (heap_alloc_new _ _)), (Below.heap_alloc _ _ _ (by simp)).trans h1, h2⟩
  have hws : w.heap.size + 2 < W.heap.size := by rw [hW]; simp
  have hD : Below w.heap.size w W := HB0.out
  obtain ⟨⟨d0, d1⟩, _⟩ := two_ofD HA0.out.2.1
  obtain ⟨⟨q0, q1, q2, q3, q4, q5, q6, q7⟩, qf⟩ := eight_of HA0.out.2.2
  obtain ⟨⟨a0, a1⟩, _⟩ := two_of HA0.out.1
  clear hD
  go_enter Tryz.func85, Tryz.ntmps85
  go_wp2_with fail
  rw [← hW]
  clear c0 c1 c2 c3 c4 c5 c6 c7 hW
  go_region
  all_goals
    go_wp2_with fail
    have h2 := ents_set (v := .slice dp dn dc) (n := nx) (X := w.heap.size + 2) (x := x) ⟨q0, q1, q2, q3, q4, q5, q6, q7⟩ qf
    have HBW : Hid (Below w.heap.size w ((W.setCell ⟨w.heap.size + 2, 6, none⟩ (.slice dp dn dc)).setCell ⟨w.heap.size + 2, 7, none⟩ (.int .i64 nx)).drew) := by
      have h : Below w.heap.size w ((W.setCell ⟨w.heap.size + 2, 6, none⟩ (.slice dp dn dc)).setCell ⟨w.heap.size + 2, 7, none⟩ (.int .i64 nx)) := by
        repeat (first | exact HB0.out | refine Below.setCell ?_ (by simp) _)
      exact ⟨h.os, h.tape, h.output, h.size, h.block⟩
    have ha : ((W.setCell ⟨w.heap.size + 2, 6, none⟩ (.slice dp dn dc)).setCell ⟨w.heap.size + 2, 7, none⟩ (.int .i64 nx)).drew.heap[w.heap.size]? = some (BH k b) := by
      show ((W.setCell ⟨w.heap.size + 2, 6, none⟩ (.slice dp dn dc)).setCell ⟨w.heap.size + 2, 7, none⟩ (.int .i64 nx)).heap[w.heap.size]? = _
      rw [Below.heap_setCell _ _ _ _ (by simp), Below.heap_setCell _ _ _ _ (by simp)]
      exact HA0.out.1
    have hz2 : w.heap.size + 2 < ((W.setCell ⟨w.heap.size + 2, 6, none⟩ (.slice dp dn dc)).setCell ⟨w.heap.size + 2, 7, none⟩ (.int .i64 nx)).drew.heap.size := by
      show w.heap.size + 2 < ((W.setCell ⟨w.heap.size + 2, 6, none⟩ (.slice dp dn dc)).setCell ⟨w.heap.size + 2, 7, none⟩ (.int .i64 nx)).heap.size
      simp
      exact hws
    generalize ((W.setCell ⟨w.heap.size + 2, 6, none⟩ (.slice dp dn dc)).setCell ⟨w.heap.size + 2, 7, none⟩ (.int .i64 nx)).drew = W2 at *
    refine (grow_any _ _ _ _ _ _ _).mono ?_
    rintro e w1 ⟨rfl, hb1⟩
    rw [HE.out.1, HE.out.2]
    have hX := hb1.block _ hz2
    obtain ⟨⟨p0, p1, p2, p3, p4, p5, p6, p7⟩, pf⟩ := h2
    replace p0 := (cell_block (p := ⟨w.heap.size + 2, 0, none⟩) hX).trans p0
    replace p1 := (cell_block (p := ⟨w.heap.size + 2, 1, none⟩) hX).trans p1
    replace p2 := (cell_block (p := ⟨w.heap.size + 2, 2, none⟩) hX).trans p2
    replace p3 := (cell_block (p := ⟨w.heap.size + 2, 3, none⟩) hX).trans p3
    replace p4 := (cell_block (p := ⟨w.heap.size + 2, 4, none⟩) hX).trans p4
    replace p5 := (cell_block (p := ⟨w.heap.size + 2, 5, none⟩) hX).trans p5
    replace p6 := (cell_block (p := ⟨w.heap.size + 2, 6, none⟩) hX).trans p6
    replace p7 := (cell_block (p := ⟨w.heap.size + 2, 7, none⟩) hX).trans p7
    have pf1 : ∀ j, w1.frozen? ⟨w.heap.size + 2, j, none⟩ = false := fun j => (frozen_block hX).trans (pf j)
    have HB1 : Hid (Below w.heap.size w w1) := HBW.out.trans (hb1.mono HBW.out.size)
    have hA := (hb1.block w.heap.size (by omega)).trans ha
    obtain ⟨⟨f0, f1⟩, _⟩ := two_of hA
    clear hb1 pf hX ha hA d0 d1 q0 q1 q2 q3 q4 q5 q6 q7 a0 a1 HBW
    go_wp2_with fail
    have HB2 : Hid (Below w.heap.size w ((((w1.setCell ⟨w.heap.size + 2, 1, none⟩ (.int .i64 x.i.kind)).setCell ⟨w.heap.size + 2, 2, none⟩ (.int .i64 x.i.links)).setCell ⟨w.heap.size + 2, 3, none⟩ (.int .i64 dn)).setCell ⟨w.heap.size + 2, 4, none⟩ (.int .i64 st))) := by
      repeat (first | exact HB1.out | refine Below.setCell ?_ (by simp) _)
    have HC : Hid (Calls Tryz.prog 92 #[.slice (some ⟨bb, off, none⟩) m cap, .agg #[.int .i64 k, .int .i64 b], .agg #[.int .i64 x.i.gen, .int .i64 x.i.kind, .int .i64 x.i.links, .int .i64 dn, .int .i64 st, .slice x.rp x.rn x.rc, .slice dp dn dc, .int .i64 nx]]
        ((((w1.setCell ⟨w.heap.size + 2, 1, none⟩ (.int .i64 x.i.kind)).setCell ⟨w.heap.size + 2, 2, none⟩ (.int .i64 x.i.links)).setCell ⟨w.heap.size + 2, 3, none⟩ (.int .i64 dn)).setCell ⟨w.heap.size + 2, 4, none⟩ (.int .i64 st))
        fun e w' => PutSaid ((((w1.setCell ⟨w.heap.size + 2, 1, none⟩ (.int .i64 x.i.kind)).setCell ⟨w.heap.size + 2, 2, none⟩ (.int .i64 x.i.links)).setCell ⟨w.heap.size + 2, 3, none⟩ (.int .i64 dn)).setCell ⟨w.heap.size + 2, 4, none⟩ (.int .i64 st)) (pl L) k b (Sp.filled x.i es nx st) e w') := by
      have h := put_any _ L k b ⟨Sp.filled x.i es nx st, x.rp, x.rn, x.rc, dp, dn, dc⟩ _ (HV.out.up HB2.out) (good_filled (HG.out.up HB2.out) (HD.out.up HB2.out) HL.out nx st)
      have e : VI ⟨Sp.filled x.i es nx st, x.rp, x.rn, x.rc, dp, dn, dc⟩ = .agg #[.int .i64 x.i.gen, .int .i64 x.i.kind, .int .i64 x.i.links, .int .i64 dn, .int .i64 st, .slice x.rp x.rn x.rc, .slice dp dn dc, .int .i64 nx] := by rw [HDN.out]; rfl
      rw [e] at h
      exact h
    refine HC.out.mono ?_
    rintro e w3 ⟨u, L', rfl, ht, hp, hb3⟩
    have HB3 : Hid (Below w.heap.size w w3) := HB2.out.trans (hb3.mono HB2.out.size)
    have HT : Hid (TabAt (fun b => w.heap.size ≤ b) w3 u L') := ⟨ht.1.imp fun _ h _ => Nat.le_trans HB2.out.size h, fun y hy => (ht.2 y hy).imp fun _ h _ => Nat.le_trans HB2.out.size h⟩
    have HP : Hid (pl L' = putTab (pl L) k b (Sp.filled x.i es nx st)) := hp
    clear hb3 ht hp p0 p1 p2 p3 p4 p5 p6 p7 f0 f1 HC
    go_wp2
    go_ret
    exact ⟨u, L', rfl, HT.out, HP.out, HB3.out⟩
end Go.Proofs.YtacghcoikekfeaaGreat
