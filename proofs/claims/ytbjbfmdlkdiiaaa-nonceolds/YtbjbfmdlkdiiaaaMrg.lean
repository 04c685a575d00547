/-
  nonce's Merge: the greater nonces, and whose grew, in rows of its own.
-/
import Derived.Test.YtbjbfmdlkdiiaaaChk
import Derived.Deep.RegionHeld3
namespace Go.Proofs.Ytbjbfmdlkdiiaaa
open Go.RowKit

/-- The block A holds n cells, g i in the place i. -/
def ArrN (w : World) (A : Nat) (T : TypeId) (n : Nat) (g : Nat → Value) : Prop := ∃ cur : Array Value, w.heap[A]? = some (.cells cur T (0, 0)) ∧ ∀ i, i < n → cur[i]? = some (g i)
theorem ArrN.lt {w : World} {A : Nat} {T : TypeId} {n : Nat} {g : Nat → Value} (h : ArrN w A T n g) : A < w.heap.size := by
  obtain ⟨cur, hb, _⟩ := h
  exact (Array.getElem?_eq_some_iff.1 hb).1
theorem ArrN.cell {w : World} {A : Nat} {T : TypeId} {n : Nat} {g : Nat → Value} (h : ArrN w A T n g) {i : Nat} (hi : i < n) : w.cell? ⟨A, i, none⟩ = some (g i) ∧ w.frozen? ⟨A, i, none⟩ = false := by
  obtain ⟨cur, hb, hg⟩ := h
  exact ⟨by simp [World.cell?, hb, hg i hi], by simp [World.frozen?, hb]⟩
theorem ArrN.kept {w w' : World} {A : Nat} {T : TypeId} {n : Nat} {g : Nat → Value} {row : Option Nat} (h : ArrN w A T n g) (hg : w.grownBy w' row) (hne : some A ≠ row) : ArrN w' A T n g := by
  have := h.lt
  obtain ⟨cur, hb, hc⟩ := h
  exact ⟨cur, (hg.block A this hne).trans hb, hc⟩
theorem ArrN.put {w : World} {A : Nat} {T : TypeId} {n : Nat} {g g' : Nat → Value} (h : ArrN w A T n g) {i : Nat} {v : Value} (hg : ∀ j, j < n → g' j = if j = i then v else g j) : ArrN (w.setCell ⟨A, i, none⟩ v) A T n g' := by
  obtain ⟨cur, hb, hc⟩ := h
  refine ⟨cur.setIfInBounds i v, by simp [World.setCell, Array.getElem?_modify, hb], fun j hj => ?_⟩
  rw [hg j hj]
  have hjs : j < cur.size := (Array.getElem?_eq_some_iff.1 (hc j hj)).1
  by_cases e : j = i
  · subst e
    rw [if_pos rfl]
    simp [hjs]
  · rw [if_neg e, Array.getElem?_setIfInBounds_ne (Ne.symm e)]
    exact hc j hj
theorem grown_setCell (w : World) (A o : Nat) (v : Value) : w.grownBy (w.setCell ⟨A, o, none⟩ v) (some A) := ⟨rfl, rfl, rfl, by simp [World.setCell], fun k _ hne => Below.heap_setCell _ _ _ _ (fun e => hne (by rw [e]))⟩
theorem grown_drew {w W : World} {row : Option Nat} (h : w.grownBy W row) (q : Nat) : w.grownBy (W.drewN q) row := ⟨h.os, h.tape, h.output, h.size, h.block⟩
theorem ArrN.made (w : World) (n : Nat) : ArrN (w.alloc (.cells (madeCells #[.int .i64 0] n) 3)) w.heap.size 3 n (fun _ => .int .i64 0) := by
  refine ⟨_, heap_alloc_new _ _, fun i hi => ?_⟩
  simp [madeCells, hi, Nat.mod_one]
theorem ArrN.ints {w : World} {A n : Nat} {T : TypeId} {g : Nat → Value} {l : List Int} (h : ArrN w A T n g) (hl : l.length = n) (hp : 0 < n) (hn : n ≤ maxLen) (hg : ∀ i, i < n → g i = .int .i64 (l.getD i 0)) : IntsAt w (.slice (some ⟨A, 0, none⟩) n n) l := by
  subst hl
  refine .inr ⟨A, 0, l.length, rfl, h.lt, hp, Nat.le_refl _, hn, fun i hi => ?_⟩
  rw [Nat.zero_add, (h.cell hi).1, hg i hi]
theorem info3 : (Try.prog.info? 3).map (fun i => (i.zero, i.size, i.bytes)) = some (some (.int .i64 0), 1, 8) := by kernel_rfl
theorem one_new_at (W : World) (g : Nat) (hg : g = W.heap.size) (a : Value) (T : TypeId) : ∀ j u, [a][j]? = some u → (W.alloc (.cells #[a] T)).cell? ((⟨g, 0, none⟩ : Addr).add j) = some u := by
  subst hg
  intro j u hj
  rw [Go.WideShapes.add_plain]
  match j, hj with
  | 0, hj => simp at hj; subst hj; simp
theorem own_drew {w : World} {base : Nat} {e : TypeId} {size : Nat} {v : Value} {n : Nat} {xs : List Value} (h : w.ownsRow base e size v n xs) (q : Nat) : (w.drewN q).ownsRow base e size v n xs := h
theorem cell_set_drew (w : World) (A o b c : Nat) (v : Value) (h : ¬ b = A) : (w.setCell ⟨A, o, none⟩ v).drew.cell? ⟨b, c, none⟩ = w.cell? ⟨b, c, none⟩ := by
  show (w.setCell ⟨A, o, none⟩ v).cell? ⟨b, c, none⟩ = _
  unfold World.cell?
  rw [Below.heap_setCell _ _ _ _ h]
namespace Nc
def mxs (a b : List Int) : List Int := if two a b then mx a b a.length else []
def grs (a b : List Int) : List Int := if two a b then grew a b a.length else []
theorem mxs_yes {a b : List Int} (h : two a b = true) : mxs a b = mx a b a.length := by unfold mxs; rw [if_pos h]
theorem grs_yes {a b : List Int} (h : two a b = true) : grs a b = grew a b a.length := by unfold grs; rw [if_pos h]
theorem mxs_no {a b : List Int} (h : two a b = false) : mxs a b = [] := by unfold mxs; rw [if_neg (by simp [h])]
theorem grs_no {a b : List Int} (h : two a b = false) : grs a b = [] := by unfold grs; rw [if_neg (by simp [h])]
/-- The cells of what is being merged. -/
def part (a b : List Int) (k i : Nat) : Value := .int .i64 (if i < k then max (a.getD i 0) (b.getD i 0) else 0)
end Nc
set_option maxRecDepth 100000 in
set_option maxHeartbeats 1000000 in
theorem merge_any (u v : Value) (a b : List Int) (w : World) (hu : IntsAt w u a) (hv : IntsAt w v b) : Calls Try.prog 15 #[u, v] w fun e w' => ∃ m g, e = .returned (.tuple #[m, g, .int .i64 (Nc.e2 a b)]) ∧ IntsAt w' m (Nc.mxs a b) ∧ IntsAt w' g (Nc.grs a b) ∧ Below w.heap.size w w' := by
  have HU : Hid (IntsAt w u a) := hu
  have HV : Hid (IntsAt w v b) := hv
  cases ht : Nc.two a b with
  | false =>
    have HM : Hid (Nc.mxs a b = []) := Nc.mxs_no ht
    have HG : Hid (Nc.grs a b = []) := Nc.grs_no ht
    have HE : Hid (Nc.e2 a b = 4) := Nc.e2_no ht
    obtain ⟨ao, ca, rfl, hma⟩ := hu.slice
    obtain ⟨bo, cb, rfl, hmb⟩ := hv.slice
    clear hu hv ht
    go_enter Try.func15, Try.ntmps15
    go_wp2_with fail
    refine (refuse_any _ _ a b _ HU.out HV.out).mono ?_
    rintro e w1 ⟨rfl, rfl⟩
    rw [HE.out]
    go_wp2
    refine bodyPost_ret (v := .tuple #[.slice none 0 0, .slice none 0 0, .int .i64 4]) (by simp [results, Try.results15, go_sem]) rfl ?_
    rw [HM.out, HG.out, HE.out]
    exact ⟨_, _, rfl, .inl ⟨_, _, rfl, rfl⟩, .inl ⟨_, _, rfl, rfl⟩, Below.refl _ _⟩
  | true =>
    have HM : Hid (Nc.mxs a b = Nc.mx a b a.length) := Nc.mxs_yes ht
    have HG : Hid (Nc.grs a b = Nc.grew a b a.length) := Nc.grs_yes ht
    have HE : Hid (Nc.e2 a b = 0) := Nc.e2_yes ht
    obtain ⟨h1, h2, h3⟩ := Nc.two_iff.1 ht
    have hn := Nc.isC_le (Nc.vec_iff.1 h1).2
    obtain ⟨ba, oa, ca, rfl, hBa, hla, hma, hxa⟩ := hu.pos hn.2
    obtain ⟨bb, ob, cb, rfl, hBb, hlb, hmb, hxb⟩ := hv.pos (by omega)
    obtain ⟨n, hnn⟩ : ∃ n, a.length = n := ⟨_, rfl⟩
    rw [← h3, hnn] at hxb hlb HV
    rw [hnn] at hxa hla hn HM HG HU
    rw [← h3, hnn]
    have HX : Hid ((∀ i, i < n → w.cell? ⟨ba, oa + i, none⟩ = some (.int .i64 (a.getD i 0))) ∧ ∀ i, i < n → w.cell? ⟨bb, ob + i, none⟩ = some (.int .i64 (b.getD i 0))) := ⟨hxa, hxb⟩
    clear hu hv ht h1 h2 h3 hxa hxb hnn
    obtain ⟨i0, hi, hz0, hz1, hz2⟩ := info_parts info3
    have hmk := run_make_row' (P := Try.prog) 22 3 (.int .i64 0) 8 Try.underlying22 info3 rfl .i64 .i64 n (by omega) (by omega)
    go_enter Try.func15, Try.ntmps15
    go_wp2_with fail
    refine (refuse_any _ _ a b _ HU.out HV.out).mono ?_
    rintro e w1 ⟨rfl, rfl⟩
    rw [HE.out]
    go_wp2
    have HA0 : Hid (ArrN (w1.alloc (.cells (madeCells #[.int .i64 0] n) 3)) w1.heap.size 3 n (Nc.part a b 0)) := by
      refine ⟨_, heap_alloc_new _ _, fun i hi => ?_⟩
      simp [madeCells, hi, Nc.part, Nat.mod_one]
    have hb0 : Below w1.heap.size w1 (w1.alloc (.cells (madeCells #[.int .i64 0] n) 3)) := (Below.refl _ _).alloc (Nat.le_refl _) _
    have hs0 : (w1.alloc (.cells (madeCells #[.int .i64 0] n) 3)).heap.size = w1.heap.size + 1 := by simp
    obtain ⟨W0, hW0⟩ : ∃ W0, w1.alloc (.cells (madeCells #[.int .i64 0] n) 3) = W0 := ⟨_, rfl⟩
    rw [hW0] at HA0 hb0 hs0 ⊢
    obtain ⟨G, hG⟩ : ∃ G, w1.heap.size = G := ⟨_, rfl⟩
    rw [hG] at HA0 hb0 hs0 hBa hBb ⊢
    have HGG : Hid (w1.heap.size = G) := hG
    have HS0 : Hid (W0.heap.size = G + 1) := hs0
    clear hW0 hG hmk hs0
    go_loopw [9, 22] (fun g t wr => ∃ k : Nat, k ≤ n ∧ t = .int .i64 k ∧ Hid (ArrN wr G 3 n (Nc.part a b k)) ∧ wr.ownsRow (G + 1) 3 1 g (Nc.grew a b k).length ((Nc.grew a b k).map (Value.int .i64)) ∧ Below G w1 wr ∧ G + 1 ≤ wr.heap.size) (fun _ t _ => n - (intOf t).toNat)
    case atStart => exact ⟨0, Nat.zero_le _, rfl, HA0, World.ownsRow_nil _ _ _ _, hb0, by rw [HS0.out]; omega⟩
    case round =>
      obtain ⟨k, hk, rfl, HA, hrow, hbl, hsz⟩ := hrel
      by_cases hlt : k < n
      · have hltI : (k : Int) < (n : Int) := by omega
        have ca0 := (hbl.cell (p := ⟨ba, oa + k, none⟩) hBa).trans (HX.out.1 k hlt)
        have cb0 := (hbl.cell (p := ⟨bb, ob + k, none⟩) hBb).trans (HX.out.2 k hlt)
        obtain ⟨cg, fg⟩ := HA.out.cell hlt
        have HP : Hid (∀ j, j < n → Nc.part a b (k + 1) j = if j = k then .int .i64 (max (a.getD k 0) (b.getD k 0)) else Nc.part a b k j) := fun j _ => by
          unfold Nc.part
          by_cases e : j = k
          · subst e; simp
          · rw [if_neg e]
            by_cases h : j < k
            · rw [if_pos (by omega), if_pos h]
            · rw [if_neg (by omega), if_neg h]
        have HY : Hid (a.getD k 0 < b.getD k 0 → Nc.grew a b (k + 1) = Nc.grew a b k ++ [(k : Int)]) := Nc.grew_yes
        have HZ : Hid (¬ a.getD k 0 < b.getD k 0 → Nc.grew a b (k + 1) = Nc.grew a b k) := Nc.grew_no
        have hgl := Nc.grew_len a b k
        generalize Nc.part a b k k = z0 at cg
        generalize a.getD k 0 = x at *
        generalize b.getD k 0 = y at *
        have na : ¬ ba = G := by omega
        have nb : ¬ bb = G := by omega
        go_wp2
        go_region_held3 (fun w' => w'.cell? ⟨ba, oa + k, none⟩ = some (.int .i64 x) ∧ w'.cell? ⟨bb, ob + k, none⟩ = some (.int .i64 y)) (first | exact ⟨(cell_set_drew _ _ _ _ _ _ na).trans ca0, (cell_set_drew _ _ _ _ _ _ nb).trans cb0⟩ | go_keep) (fail)
        have HMX : Hid ((if x < y then y else x) = max x y) := show (if x < y then y else x) = max x y by split <;> omega
        have HA2 : Hid (ArrN (wr.setCell ⟨G, k, none⟩ (.int .i64 (if x < y then y else x))).drew G 3 n (Nc.part a b (k + 1))) := by
          have h := HA.out.put (v := .int .i64 (if x < y then y else x)) (g' := Nc.part a b (k + 1)) (i := k) (fun j hj => by rw [HMX.out]; exact HP.out j hj)
          exact h
        have gs : wr.grownBy (wr.setCell ⟨G, k, none⟩ (.int .i64 (if x < y then y else x))).drew (some G) := grown_drew (grown_setCell _ _ _ _) 1
        have ca2 := (cell_set_drew wr G k ba (oa + k) (.int .i64 (if x < y then y else x)) na).trans ca0
        have cb2 := (cell_set_drew wr G k bb (ob + k) (.int .i64 (if x < y then y else x)) nb).trans cb0
        obtain ⟨W2, hW2⟩ : ∃ W2, (wr.setCell ⟨G, k, none⟩ (.int .i64 (if x < y then y else x))).drew = W2 := ⟨_, rfl⟩
        rw [hW2] at HA2 gs ca2 cb2 ⊢
        have hrow2 : W2.ownsRow (G + 1) 3 1 u9 (Nc.grew a b k).length ((Nc.grew a b k).map (Value.int .i64)) := hrow.kept gs (by
          cases hq : u9.ownBlock with
          | none => exact .inl rfl
          | some q => exact .inr (by have := (hrow.lt q hq).1; simp; omega))
        have hbl2 : Below G w1 W2 := hbl.grown gs (by omega) (fun j hj => by cases hj; exact Nat.le_refl _)
        have hsz2 : G + 1 ≤ W2.heap.size := Nat.le_trans hsz gs.size
        obtain ⟨z, hz⟩ : ∃ z, (if x < y then y else x) = z := ⟨_, rfl⟩
        rw [hz]
        clear hz hW2 HMX gs hrow hbl ca0 cb0 cg fg HA HP hsz
        by_cases hxy : x < y
        · have HY2 := HY.out hxy
          have HY3 : Hid (Nc.grew a b (k + 1) = Nc.grew a b k ++ [(k : Int)]) := HY2
          clear HY2 HY HZ
          go_wp2
          go_quiet (fail)
          go_wp2_with (at_builtin; refine wpList_append_own _ rfl _ _ 22 rfl (G + 1) 3 i0 (.int .i64 0) 1 8 Try.underlying22 hi hz0 hz1 hz2 rfl (by decide) _ _ _ rfl ((own_drew hrow2 _).alloc _) ⟨_, 0, none⟩ 1 1 [.int .i64 k] rfl rfl ?c1 ?c2 ?c3 ?c4 ?c5 ?_)
          case c1 => exact one_new_at _ _ rfl _ _
          case c2 => exact ints_oneCell .i64 [(k : Int)]
          case c3 => unfold maxLen; omega
          case c4 => omega
          case c5 => simp; omega
          intro v' w3 hown3 hg3 _
          have hga : W2.grownBy w3 u9.ownBlock := grown_trans (grown_drew (grown_refl W2 _) _) (grown_trans (World.grownBy_alloc _ (.cells #[.int .i64 k] 3) u9.ownBlock) hg3)
          have hown4 : w3.ownsRow (G + 1) 3 1 v' (Nc.grew a b (k + 1)).length ((Nc.grew a b (k + 1)).map (Value.int .i64)) := by
            rw [HY3.out]
            simpa using hown3
          have HA4 : Hid (ArrN w3 G 3 n (Nc.part a b (k + 1))) := HA2.out.kept hga (fun e => by have := (hrow2.lt G e.symm).1; omega)
          have hbl4 : Below G w1 w3 := hbl2.grown hga (by omega) (fun j hj => by have := (hrow2.lt j hj).1; omega)
          have hsz4 : G + 1 ≤ w3.heap.size := Nat.le_trans hsz2 hga.size
          clear hown3 hg3 hga hrow2 hbl2 HA2
          go_wp2
          go_roundw
          case rel => exact ⟨k + 1, by omega, by go_num, HA4, hown4, hbl4, hsz4⟩
          case measure => simp [intOf]; omega
        · have HY3 : Hid (Nc.grew a b (k + 1) = Nc.grew a b k) := HZ.out (by omega)
          clear HY HZ
          go_wp2
          go_quiet (fail)
          go_wp2
          go_roundw
          case rel => exact ⟨k + 1, by omega, by go_num, HA2, by rw [HY3.out]; exact own_drew hrow2 _, Go.below_drewN hbl2 _, hsz2⟩
          case measure => simp [intOf]; omega
      · obtain rfl : n = k := by omega
        go_wp2
        refine bodyPost_ret (v := .tuple #[.slice (some ⟨G, 0, none⟩) n n, u9, .int .i64 0]) (by simp [results, Try.results15, go_sem]) rfl ?_
        rw [HM.out, HG.out, HE.out]
        refine ⟨_, _, rfl, ?_, IntsAt.of_own hrow, by rw [HGG.out]; exact hbl⟩
        exact HA.out.ints (Nc.mx_length a b n) hn.2 (by unfold maxLen; omega) (fun i hi => by rw [Nc.mx_getD hi]; unfold Nc.part; rw [if_pos hi])
end Go.Proofs.Ytbjbfmdlkdiiaaa
