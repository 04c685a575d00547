/-
  FolderWalk: for every two lists of steps and every number the call answers true, and the arguments read as before. No condition.
-/
import Derived.Test.YtlpnkcolpgodjaaHas
import Derived.Test.YtlpnkcolpgodjaaPlainW
namespace Go.Proofs.Ytlpnkcolpgodjaa
open Go.ChangeShapes Go.WideShapes Go.ChangeAt Go.RowKit Go.Deep
theorem eql_ents (w : World) (x y : Ent) : (binOp .eql 30 (VE x) (VE y)).run Try.prog w = .ok (.bool (decide (x = y))) w := by
  obtain ⟨x0, x1, x2, x3⟩ := x
  obtain ⟨y0, y1, y2, y3⟩ := y
  have e : decide ((x0, x1, x2, x3) = (y0, y1, y2, y3)) = ((x0.toList == y0.toList) && ((x1 == y1) && ((x2 == y2) && (x3 == y3)))) := by
    have hs : (x0.toList == y0.toList) = true ↔ x0 = y0 := Fo.called_iff (s := y0) (x := (x0, 0, 0, 0))
    rw [Bool.eq_iff_iff, Bool.and_eq_true, hs]
    simp
  rw [e]
  cases h0 : (x0.toList == y0.toList) <;> cases h1 : (x1 == y1) <;> cases h2 : (x2 == y2) <;> cases h3 : (x3 == y3) <;> go_simp <;> simp [h0, h1, h2, h3]
/-- Ahead of the walk: the folder's box, the folder. -/
structure StAt (D : Nat) (w wr : World) (vv : Value) (l : List Ent) (next : Int) (k : Nat) : Prop where
  box : wr.heap[D]? = some (BD vv next)
  ents : At EE (fun b => b ≠ D) wr vv l
  right : Fo.Right l next
  nextk : next ≤ k
  lenk : l.length ≤ k
  below : Below D w wr
theorem StAt.up {D : Nat} {w wr w' : World} {vv : Value} {l : List Ent} {next : Int} {k : Nat} (h : StAt D w wr vv l next k) (hb : Below wr.heap.size wr w') : StAt D w w' vv l next k :=
  ⟨(hb.block _ (Array.getElem?_eq_some_iff.1 h.box).1).trans h.box, h.ents.up hb, h.right, h.nextk, h.lenk, h.below.trans (hb.mono (Nat.le_of_lt (Array.getElem?_eq_some_iff.1 h.box).1))⟩
/-- How the walk stands: the folder, what stays, what is told. -/
structure WkAt (D : Nat) (w wr : World) (vv sv tv : Value) (l : List Ent) (next c : Int) (T St : List Ent) (k : Nat) : Prop where
  box : wr.heap[D]? = some (BD vv next)
  ents : At EE (fun b => b ≠ D ∧ some b ≠ tv.ownBlock) wr vv l
  stay : At EE (fun b => b ≠ D ∧ some b ≠ tv.ownBlock) wr sv St
  told : Row EE wr (D + 1) 30 tv T
  plain : Fo.WalkP l next c T St k
  below : Below D w wr
theorem WkAt.up {D : Nat} {w wr w' : World} {vv sv tv : Value} {l : List Ent} {next c : Int} {T St : List Ent} {k : Nat} (h : WkAt D w wr vv sv tv l next c T St k) (hb : Below wr.heap.size wr w') : WkAt D w w' vv sv tv l next c T St k :=
  ⟨(hb.block _ (Array.getElem?_eq_some_iff.1 h.box).1).trans h.box, h.ents.up hb, h.stay.up hb, h.told.up hb, h.plain, h.below.trans (hb.mono (Nat.le_of_lt (Array.getElem?_eq_some_iff.1 h.box).1))⟩
/-- What is told grows by a page. -/
theorem WkAt.page {D : Nat} {w wr w7 : World} {vv sv tv v7 : Value} {l : List Ent} {next c : Int} {T St : List Ent} {k n n3 : Nat} {y : Ent} (h : WkAt D w wr vv sv tv l next c T St k) (hn : n ≤ 64) (hl : ((l.filter (Fo.past c)).take n).length = n3 + 1) (hy : ((l.filter (Fo.past c)).take n)[n3]? = some y)
    (hrow : Row EE w7 (D + 1) 30 v7 (T ++ (l.filter (Fo.past c)).take n)) (hg : wr.grownBy w7 tv.ownBlock) (hloc : v7.ownBlock = tv.ownBlock ∨ ∀ j, v7.ownBlock = some j → wr.heap.size ≤ j) : WkAt D w w7 vv sv v7 l next y.2.1 (T ++ (l.filter (Fo.past c)).take n) St (k + 1) := by
  have hp := Fo.walk_page h.plain hn hl hy
  have hD : D < wr.heap.size := (Array.getElem?_eq_some_iff.1 h.box).1
  have key : ∀ {v : Value} {m : List Ent}, At EE (fun b => b ≠ D ∧ some b ≠ tv.ownBlock) wr v m → At EE (fun b => b ≠ D ∧ some b ≠ v7.ownBlock) w7 v m := fun {v m} ha => by
    have h1 := (ha.imp (T := fun b => (b ≠ D ∧ some b ≠ tv.ownBlock) ∧ b < wr.heap.size) (fun b h1 h2 => ⟨h1, h2⟩)).grown hg (fun g hg' hS => hS.1.2 hg'.symm)
    refine h1.imp fun b hb _ => ⟨hb.1.1, fun e => ?_⟩
    rcases hloc with h7 | h7
    · exact hb.1.2 (e.trans h7)
    · have := h7 b e.symm
      have := hb.2
      omega
  refine ⟨(hg.block _ hD (fun e => ?_)).trans h.box, key h.ents, key h.stay, hrow, ⟨h.plain.right, hp.1, hp.2.1, hp.2.2.1, hp.2.2.2.1, h.plain.sub, hp.2.2.2.2.1, by have := h.plain.nx1; omega, h.plain.nx2, hp.2.2.2.2.2, h.plain.stl⟩, h.below.grown hg (Nat.le_of_lt hD) (fun j hj => by have := (h.told.lt j hj).1; omega)⟩
  have := (h.told.lt D e.symm).1
  omega
/-- The folder behind a step, what stays of what stayed. -/
theorem WkAt.step {D : Nat} {w w3 wr : World} {v2 s2 tv : Value} {l l2 : List Ent} {next next2 c : Int} {T St R : List Ent} {k : Nat} (hpl : Fo.WalkP l next c T St (k + 1)) (hbox : w3.heap[D]? = some (BD v2 next2)) (hents : At EE (fun b => b ≠ D ∧ some b ≠ tv.ownBlock) w3 v2 l2) (htold : Row EE w3 (D + 1) 30 tv T) (hb3 : Below D w w3)
    (hb : Below w3.heap.size w3 wr) (hrow : Row EE wr w3.heap.size 30 s2 R) (hR : ∀ x ∈ R, x ∈ St ∧ x ∈ l2) (hRl : R.length ≤ 100) (hr : Fo.Right l2 next2) (hn1 : next ≤ next2) (hn2 : next2 ≤ 100 + ((k + 1 : Nat) : Int)) (hn3 : next2 ≤ 200) : WkAt D w wr v2 s2 tv l2 next2 c T R (k + 1) := by
  have hD : D < w3.heap.size := (Array.getElem?_eq_some_iff.1 hbox).1
  refine ⟨(hb.block _ hD).trans hbox, hents.up hb, hrow.at.imp fun b hb9 _ => ⟨by omega, fun e => ?_⟩, htold.up hb, ⟨hr, hpl.rise, hpl.top, hpl.cnn, by have := hpl.cnx; omega, fun x hx => (hR x hx).2, fun x hx hc => hpl.told x (hR x hx).1 hc, hn2, hn3, hpl.tl, hRl⟩, hb3.trans (hb.mono (Nat.le_of_lt hD))⟩
  have := (htold.lt b e.symm).2
  omega
theorem WkAt.walk0 {l : List Ent} {next : Int} {k : Nat} (h : Fo.Right l next) (h1 : next ≤ k) (h2 : l.length ≤ k) (hk : k ≤ 100) : Fo.WalkP l next 0 [] l 0 := by
  have h3 : ∀ x ∈ l, x.2.1 ≤ 0 → x ∈ ([] : List Ent) := fun x hx hc => by
    have := ((Fo.right_iff.1 h).2.1 x hx).2.1.1
    omega
  exact ⟨h, List.Pairwise.nil, fun x hx => (by cases hx), (by omega), h.1.1, fun x hx => hx, h3, (by omega), (by omega), (by simp), (by omega)⟩
/-- A store into the folder's box. -/
theorem put_dir {D : Nat} {w w2 : World} {v0 v2 : Value} {n0 n2 : Int} {tv : Value} {T : List Ent} {S : Nat → Prop} {l2 : List Ent} (hbox : w2.heap[D]? = some (BD v0 n0)) (hS : ∀ b, S b → b ≠ D) (he : At EE S w2 v2 l2) (ht : Row EE w2 (D + 1) 30 tv T) (hb : Below D w w2) :
    ((w2.setCell ⟨D, 0, none⟩ v2).setCell ⟨D, 1, none⟩ (.int .i64 n2)).heap[D]? = some (BD v2 n2) ∧ At EE S ((w2.setCell ⟨D, 0, none⟩ v2).setCell ⟨D, 1, none⟩ (.int .i64 n2)) v2 l2 ∧ Row EE ((w2.setCell ⟨D, 0, none⟩ v2).setCell ⟨D, 1, none⟩ (.int .i64 n2)) (D + 1) 30 tv T ∧ Below D w ((w2.setCell ⟨D, 0, none⟩ v2).setCell ⟨D, 1, none⟩ (.int .i64 n2)) := by
  have hne : tv.ownBlock = none ∨ tv.ownBlock ≠ some D := by
    right
    intro e
    have := (ht.lt _ e).1
    omega
  exact ⟨set_dir hbox, At.setCell (At.setCell he (fun h => hS _ h rfl) _) (fun h => hS _ h rfl) _, (ht.kept (grown_set _ _ _ _) hne).kept (grown_set _ _ _ _) hne, Below.setCell (Below.setCell hb (by simp) _) (by simp) _⟩
set_option maxRecDepth 100000 in
set_option maxHeartbeats 16000000 in
theorem walk_any (v u : Value) (L M : List (Int × ByteArray)) (n : Int) (w : World) (hv : AtW EP w v L) (hu : AtW EP w u M) (hs : ∀ x ∈ L, x.2.size ≤ maxLen) (ht : ∀ x ∈ M, x.2.size ≤ maxLen) :
    Calls Try.prog 7 #[v, u, .int .i64 n] w fun e w' => e = .returned (.bool true) ∧ Below w.heap.size w w' := by
  obtain ⟨ao, cap, rfl, hm, hx⟩ := hv.open
  obtain ⟨bo, cap', rfl, hm', hy⟩ := hu.open
  clear hv hu
  unfold maxLen at hm hm'
  obtain ⟨N, hN⟩ : ∃ N, L.length = N := ⟨_, rfl⟩
  obtain ⟨N', hN'⟩ : ∃ N', M.length = N' := ⟨_, rfl⟩
  rw [hN] at hm ⊢
  rw [hN'] at hm' ⊢
  have HN : Hid (L.length = N) := hN
  have HN' : Hid (M.length = N') := hN'
  have HX : Hid (OverP w ao L) := hx
  have HY : Hid (OverP w bo M) := hy
  have HS : Hid (∀ x ∈ L, x.2.size ≤ maxLen) := hs
  have HT : Hid (∀ x ∈ M, x.2.size ≤ maxLen) := ht
  clear hN hN' hx hy hs ht
  by_cases a1 : (100 : Int) < (N : Int)
  · clear HX HY HS HT
    go_enter Try.func7, Try.ntmps7
    go_wp2_with fail
    refine (two_any _).mono ?_
    rintro e w2 ⟨rfl, hb⟩
    go_wp2
    go_ret
    exact ⟨rfl, hb⟩
  by_cases a2 : (100 : Int) < (N' : Int)
  · clear HX HY HS HT
    go_enter Try.func7, Try.ntmps7
    go_wp2_with fail
    refine (two_any _).mono ?_
    rintro e w2 ⟨rfl, hb⟩
    go_wp2
    go_ret
    exact ⟨rfl, hb⟩
  by_cases a3 : n < 1
  · clear HX HY HS HT
    go_enter Try.func7, Try.ntmps7
    go_wp2_with fail
    refine (two_any _).mono ?_
    rintro e w2 ⟨rfl, hb⟩
    go_wp2
    go_ret
    exact ⟨rfl, hb⟩
  by_cases a4 : 64 < n
  · clear HX HY HS HT
    go_enter Try.func7, Try.ntmps7
    go_wp2_with fail
    refine (two_any _).mono ?_
    rintro e w2 ⟨rfl, hb⟩
    go_wp2
    go_ret
    exact ⟨rfl, hb⟩
  have hN1 : N ≤ 100 := by omega
  have hN2 : N' ≤ 100 := by omega
  have HNN : Hid (1 ≤ n ∧ n ≤ 64) := ⟨by omega, by omega⟩
  have b1 : decide ((100 : Int) < (N : Int)) = false := decide_eq_false a1
  have b2 : decide ((100 : Int) < (N' : Int)) = false := decide_eq_false a2
  have b3 : decide (n < 1) = false := decide_eq_false a3
  have b4 : decide (64 < n) = false := decide_eq_false a4
  obtain ⟨i0, hi, hz0, hz1, hz2⟩ := info_parts infoE
  have HI : Hid (StAt w.heap.size w (w.alloc BZD) (.slice none 0 0) [] 0 0) := ⟨heap_alloc_new w BZD, At.nil, Fo.right_0, Int.le_refl _, Nat.le_refl _, (Below.refl _ _).alloc (Nat.le_refl _) _⟩
  go_enter Try.func7, Try.ntmps7
  go_wp2
  go_loopw [48] (fun i wr => ∃ (k : Nat) (l : List Ent) (next : Int) (vv : Value), k ≤ N ∧ i = .int .i64 k ∧ Hid (StAt w.heap.size w wr vv l next k)) (fun i _ => N - (intOf i).toNat)
  case atStart => exact ⟨0, [], 0, .slice none 0 0, Nat.zero_le _, rfl, HI⟩
  case round =>
    obtain ⟨k, l, next, vv, hk, rfl, HH⟩ := hrel
    obtain ⟨pv0, cv0, rfl, -, -⟩ := HH.out.ents.open
    obtain ⟨kv, hkv⟩ : ∃ kv, l.length = kv := ⟨_, rfl⟩
    rw [hkv] at HH
    have HKV : Hid (l.length = kv) := hkv
    have hsz := HH.out.below.size
    have hDl : w.heap.size < wr.heap.size := (Array.getElem?_eq_some_iff.1 HH.out.box).1
    obtain ⟨⟨d0, d1⟩, -⟩ := dir_of HH.out.box
    clear hkv
    by_cases hlt : k < N
    · obtain ⟨x, hxk⟩ : ∃ x, L[k]? = some x := ⟨_, List.getElem?_eq_getElem (by rw [HN.out]; exact hlt)⟩
      obtain ⟨b, off, rfl, -, hB, hc⟩ := HX.out k x hxk
      have HSX : Hid (x.2.size ≤ maxLen) := HS.out x (List.mem_of_getElem? hxk)
      obtain ⟨what, s⟩ := x
      have a := fun j u hj => (HH.out.below.cell (p := ⟨b, off + (k * EP.sz + j), none⟩) hB).trans (hc j u hj)
      have c0 : wr.cell? ⟨b, off + k * 2, none⟩ = some (.int .i64 what) := a 0 _ rfl
      have c1 : wr.cell? ⟨b, off + k * 2 + 1, none⟩ = some (.string s) := a 1 _ rfl
      simp only at HSX
      clear a hc hxk
      have hlt' : (k : Int) < (N : Int) := by omega
      have HH1 : Hid (StAt w.heap.size w (wr.alloc (BS what s)) (.slice pv0 kv cv0) l next k) := HH.out.up ((Below.refl _ _).alloc (Nat.le_refl _) _)
      have HSM : Hid (∀ y ∈ l, y.1.size ≤ maxLen) := Fo.small_names HH.out.right
      go_wp2_with fail
      refine (do_any _ l next what s _ HH1.out.ents HSM.out HSX.out).mono ?_
      rintro e w2 ⟨pv, kv2, cv, rfl, hu2, hb2⟩
      have HSR : Hid (Fo.Right (Fo.stp l next what s).1 (Fo.stp l next what s).2 ∧ next ≤ (Fo.stp l next what s).2 ∧ (Fo.stp l next what s).2 ≤ next + 1 ∧ (Fo.stp l next what s).1.length ≤ l.length + 1) := Fo.stp_right HH.out.right (by have := HH.out.nextk; omega)
      obtain ⟨l2, hl2⟩ : ∃ l2, (Fo.stp l next what s).1 = l2 := ⟨_, rfl⟩
      obtain ⟨next2, hnx2⟩ : ∃ next2, (Fo.stp l next what s).2 = next2 := ⟨_, rfl⟩
      rw [hl2, hnx2] at HSR
      rw [hl2] at hu2
      rw [hnx2]
      have HH2 : Hid (StAt w.heap.size w w2 (.slice pv0 kv cv0) l next k) := HH1.out.up hb2
      have HU2 : Hid (At EE (fun b => b ≠ w.heap.size) w2 (.slice pv kv2 cv) l2) := hu2.imp fun b hb _ => by
        rcases hb with hb | hb
        · exact hb
        · simp at hb
          omega
      obtain ⟨⟨f0, f1⟩, ff⟩ := dir_of HH2.out.box
      have hpd := put_dir (w := w) (n2 := next2) HH2.out.box (fun b hb => hb) HU2.out (Row.nil EE w2 _ _) HH2.out.below
      have HEND : Hid (StAt w.heap.size w ((w2.setCell ⟨w.heap.size, 0, none⟩ (.slice pv kv2 cv)).setCell ⟨w.heap.size, 1, none⟩ (.int .i64 next2)) (.slice pv kv2 cv) l2 next2 (k + 1)) := ⟨hpd.1, hpd.2.1, HSR.out.1, by have h1 := HSR.out.2.2.1; have h2 := HH.out.nextk; omega, by have h1 := HSR.out.2.2.2; have h2 := HH.out.lenk; omega, hpd.2.2.2⟩
      clear hl2 hnx2 hu2 hb2 hpd
      go_wp2
      go_roundw
      case rel => exact ⟨k + 1, l2, next2, .slice pv kv2 cv, by omega, by go_num, HEND⟩
      case measure => simp [intOf]; omega
    · obtain rfl : k = N := by omega
      have HW : Hid (WkAt w.heap.size w wr (.slice pv0 kv cv0) (.slice pv0 kv cv0) (.slice none 0 0) l next 0 [] l 0) := ⟨HH.out.box, HH.out.ents.imp fun b hb _ => ⟨hb, by simp [Value.ownBlock]⟩, HH.out.ents.imp fun b hb _ => ⟨hb, by simp [Value.ownBlock]⟩, Row.nil _ _ _ _, WkAt.walk0 HH.out.right HH.out.nextk HH.out.lenk hN1, HH.out.below⟩
      clear hlt
      go_wp2
      clear d0 d1
      go_loopw [10, 11, 12, 13] (fun sv tv t i wr => ∃ (k : Nat) (c : Int) (l : List Ent) (next : Int) (T St : List Ent) (vv : Value) (p : Option Addr) (m q : Nat) (p' : Option Addr) (m' q' : Nat), k ≤ 400 ∧ i = .int .i64 k ∧ t = .int .i64 c ∧ sv = .slice p m q ∧ tv = .slice p' m' q' ∧ Hid (WkAt w.heap.size w wr vv (.slice p m q) (.slice p' m' q') l next c T St k)) (fun _ _ _ i _ => 400 - (intOf i).toNat)
      case atStart => exact ⟨0, 0, l, next, [], l, .slice pv0 kv cv0, pv0, kv, cv0, none, 0, 0, by omega, rfl, rfl, rfl, rfl, HW⟩
      case round =>
        clear HW HH HKV
        obtain ⟨z, c, l, next, T, St, vv, p, m, q, p', m', q', hz, rfl, rfl, rfl, rfl, HW⟩ := hrel
        obtain ⟨pv, cv, rfl, -, -⟩ := HW.out.ents.open
        obtain ⟨kv, hkv⟩ : ∃ kv, l.length = kv := ⟨_, rfl⟩
        rw [hkv] at HW
        have hzb : z ≤ 200 := by have h1 := HW.out.plain.cnn; have h2 := HW.out.plain.cnx; have h3 := HW.out.plain.nx2; omega
        have hz400 : (z : Int) < 400 := by omega
        have hc0 : 0 ≤ c ∧ c ≤ 200 := by have h1 := HW.out.plain.cnn; have h2 := HW.out.plain.cnx; have h3 := HW.out.plain.nx2; omega
        have HPG : Hid (Fo.pageErr l next c n = 0 ∧ Fo.page l next c n = (l.filter (Fo.past c)).take n.toNat) := Fo.pg_ok HW.out.plain.right hc0.1 HNN.out
        have HSM : Hid (∀ y ∈ l, y.1.size ≤ maxLen) := Fo.small_names HW.out.plain.right
        have hDl : w.heap.size < wr.heap.size := (Array.getElem?_eq_some_iff.1 HW.out.box).1
        obtain ⟨⟨d0, d1⟩, -⟩ := dir_of HW.out.box
        clear hkv
        go_wp2_with fail
        refine (page_any _ l next c n _ HW.out.ents.wide HSM.out).mono ?_
        rintro e w2 ⟨p2, n2, q2, rfl, h2, hb2⟩
        rw [HPG.out.1]
        rw [HPG.out.2] at h2
        have HW2 : Hid (WkAt w.heap.size w w2 (.slice pv kv cv) (.slice p m q) (.slice p' m' q') l next c T St z) := HW.out.up hb2
        have HA2 : Hid (At EE (fun b => wr.heap.size ≤ b) w2 (.slice p2 n2 q2) ((l.filter (Fo.past c)).take n.toNat)) := h2
        have HL2 : Hid (n2 = ((l.filter (Fo.past c)).take n.toNat).length) := h2.lenq
        have hn64 : n2 ≤ 64 := by have h1 := HL2.out; have h3 := HNN.out; rw [List.length_take] at h1; omega
        have hs2 := hb2.size
        have HTL : Hid (wr.heap.size ≤ w2.heap.size ∧ ∀ j, (Value.slice p' m' q').ownBlock = some j → j < wr.heap.size) := ⟨hs2, fun j hj => (HW.out.told.lt j hj).2⟩
        clear h2 hb2 d0 d1
        by_cases hn0 : n2 = 0
        · subst hn0
          have HALL : Hid (∀ x ∈ St, x ∈ T) := fun x hx => HW2.out.plain.told x hx (Fo.pg_end (by have := HNN.out; omega) (List.eq_nil_of_length_eq_zero HL2.out.symm) x (HW2.out.plain.sub x hx))
          have HMT : Hid (T.length = m') := (Row.lenq HW2.out.told).symm
          have HMS : Hid (St.length = m) := HW2.out.stay.lenq.symm
          have hmt : m' ≤ 25600 := by have h1 := HW2.out.plain.tl; have h2 := HMT.out; omega
          have hms : m ≤ 100 := by have h1 := HW2.out.plain.stl; have h2 := HMS.out; omega
          have HTA : Hid (At EE (fun _ => True) w2 (.slice p' m' q') T) := HW2.out.told.at.wide
          have HSA : Hid (At EE (fun _ => True) w2 (.slice p m q) St) := HW2.out.stay.wide
          have HRI : Hid (Fo.rise T) := HW2.out.plain.rise
          have HB2 : Hid (Below w.heap.size w w2) := HW2.out.below
          clear HW HA2 HPG HSM HTL
          go_wp2
          go_loopw [122] (fun i wr => ∃ j : Nat, j ≤ m' ∧ i = .int .i64 j ∧ Hid (Below w2.heap.size w2 wr)) (fun i _ => m' - (intOf i).toNat)
          case atStart => exact ⟨0, Nat.zero_le _, rfl, Below.refl _ _⟩
          case round =>
            obtain ⟨j, hj, rfl, HB⟩ := hrel
            have hsz := HB.out.size
            by_cases hlt : j < m'
            · obtain ⟨x, hxj⟩ : ∃ x, T[j]? = some x := ⟨_, List.getElem?_eq_getElem (by rw [HMT.out]; exact hlt)⟩
              obtain ⟨ao9, cap9, hvt, -, hot⟩ := HTA.out.open
              obtain ⟨bt, oft, hbt, -, hBt, hct⟩ := hot j x hxj
              simp only [Value.slice.injEq] at hvt
              obtain rfl : p' = some ⟨bt, oft, none⟩ := hvt.1.trans hbt
              have aa := fun i u hi => (HB.out.cell (p := ⟨bt, oft + (j * EE.sz + i), none⟩) hBt).trans (hct i u hi)
              have c0 : wr.cell? ⟨bt, oft + j * 4, none⟩ = some (.string x.1) := aa 0 _ rfl
              have c1 : wr.cell? ⟨bt, oft + j * 4 + 1, none⟩ = some (.int .i64 x.2.1) := aa 1 _ rfl
              have c2 : wr.cell? ⟨bt, oft + j * 4 + 2, none⟩ = some (.int .i64 x.2.2.1) := aa 2 _ rfl
              have c3 : wr.cell? ⟨bt, oft + j * 4 + 3, none⟩ = some (.int .i64 x.2.2.2) := aa 3 _ rfl
              have hlt' : (j : Int) < (m' : Int) := by omega
              have HB3 : Hid (Below w2.heap.size w2 (wr.alloc (BE x))) := HB.out.alloc hsz _
              obtain ⟨⟨x0, x1, x2, x3⟩, -⟩ := four_of (heap_alloc_new wr (BE x))
              by_cases hj0 : j = 0
              · subst hj0
                clear aa hct hot hvt hbt hxj
                simp only [Nat.zero_mul, Nat.add_zero] at c0 c1 c2 c3
                go_wp2
                go_quiet (fail)
                go_wp2
                go_roundw
                case rel => exact ⟨0 + 1, by omega, by go_num, below_drewN HB3.out _⟩
                case measure => simp [intOf]; omega
              · obtain ⟨j', rfl⟩ : ∃ j', j = j' + 1 := ⟨j - 1, by omega⟩
                obtain ⟨y, hyj⟩ : ∃ y, T[j']? = some y := ⟨_, List.getElem?_eq_getElem (by rw [HMT.out]; omega)⟩
                have hlt2 := Fo.rise_lt HRI.out (show j' < j' + 1 by omega) hyj hxj
                obtain ⟨b3, off3, hbo, -, hB3, hcy⟩ := hot j' y hyj
                have hboe : (⟨bt, oft, none⟩ : Addr) = ⟨b3, off3, none⟩ := Option.some.inj (hbt.symm.trans hbo)
                simp only [Addr.mk.injEq, and_true] at hboe
                obtain ⟨rfl, rfl⟩ := hboe
                have v0 : wr.cell? ⟨bt, oft + j' * 4 + 1, none⟩ = some (.int .i64 y.2.1) := (HB.out.cell (p := ⟨bt, oft + (j' * EE.sz + 1), none⟩) hBt).trans (hcy 1 _ rfl)
                have v1 : (wr.alloc (BE x)).cell? ⟨bt, oft + j' * 4 + 1, none⟩ = some (.int .i64 y.2.1) := (cell_older (cell_lt v0) _ _).trans v0
                have hj1 : (0 : Int) < ((j' + 1 : Nat) : Int) := by omega
                have hjs : ((j' + 1 : Nat) : Int) - 1 = (j' : Int) := by omega
                have hj2 : (j' : Int) < (m' : Int) := by omega
                have hge : decide (x.2.1 ≤ y.2.1) = false := decide_eq_false (by omega)
                have hge' : ¬ x.2.1 ≤ y.2.1 := by omega
                clear aa hct hot hvt hbt hxj hyj hbo hcy hj0
                go_wp2
                go_quiet (fail)
                go_wp2
                go_roundw
                case rel => exact ⟨j' + 1 + 1, by omega, by go_num, below_drewN HB3.out _⟩
                case measure => simp [intOf]; omega
            · obtain rfl : m' = j := by omega
              clear hlt
              go_wp2
              go_loopw [143] (fun i wr => ∃ j : Nat, j ≤ m ∧ i = .int .i64 j ∧ Hid (Below w2.heap.size w2 wr)) (fun i _ => m - (intOf i).toNat)
              case atStart => exact ⟨0, Nat.zero_le _, rfl, HB⟩
              case round =>
                clear HB hsz
                obtain ⟨j, hj, rfl, HB⟩ := hrel
                have hsz := HB.out.size
                by_cases hlt : j < m
                · obtain ⟨x, hxj⟩ : ∃ x, St[j]? = some x := ⟨_, List.getElem?_eq_getElem (by rw [HMS.out]; exact hlt)⟩
                  have HXT : Hid (T.countP (fun y => decide (y = x)) = 1) := Fo.rise_count HRI.out (HALL.out x (List.mem_of_getElem? hxj))
                  obtain ⟨ao9, cap9, hvt, -, hot⟩ := HSA.out.open
                  obtain ⟨bt, oft, hbt, -, hBt, hct⟩ := hot j x hxj
                  simp only [Value.slice.injEq] at hvt
                  obtain rfl : p = some ⟨bt, oft, none⟩ := hvt.1.trans hbt
                  have aa := fun i u hi => (HB.out.cell (p := ⟨bt, oft + (j * EE.sz + i), none⟩) hBt).trans (hct i u hi)
                  have c0 : wr.cell? ⟨bt, oft + j * 4, none⟩ = some (.string x.1) := aa 0 _ rfl
                  have c1 : wr.cell? ⟨bt, oft + j * 4 + 1, none⟩ = some (.int .i64 x.2.1) := aa 1 _ rfl
                  have c2 : wr.cell? ⟨bt, oft + j * 4 + 2, none⟩ = some (.int .i64 x.2.2.1) := aa 2 _ rfl
                  have c3 : wr.cell? ⟨bt, oft + j * 4 + 3, none⟩ = some (.int .i64 x.2.2.2) := aa 3 _ rfl
                  have hlt' : (j : Int) < (m : Int) := by omega
                  have HB3 : Hid (Below w2.heap.size w2 (wr.alloc (BE x))) := HB.out.alloc hsz _
                  have HBX : Hid ((wr.alloc (BE x)).heap[wr.heap.size]? = some (BE x)) := heap_alloc_new _ _
                  obtain ⟨W4, hW4⟩ : ∃ W4, W4 = wr.alloc (BE x) := ⟨_, rfl⟩
                  rw [← hW4] at HB3 HBX
                  clear aa hct hot hvt hbt hxj
                  go_wp2
                  rw [← hW4]
                  clear hW4 c0 c1 c2 c3
                  go_loopw [25, 149] (fun t i wr => ∃ (g cnt : Nat), g ≤ m' ∧ cnt ≤ g ∧ i = .int .i64 g ∧ t = .int .i64 cnt ∧ Hid (cnt = (T.take g).countP (fun y => decide (y = x))) ∧ Hid (Below W4.heap.size W4 wr)) (fun _ i _ => m' - (intOf i).toNat)
                  case atStart => exact ⟨0, 0, Nat.zero_le _, Nat.le_refl _, rfl, rfl, rfl, Below.refl _ _⟩
                  case round =>
                    obtain ⟨g, cnt, hg, hcg, rfl, rfl, HCN, HB5⟩ := hrel
                    have hsz5 := HB5.out.size
                    have hB25 := HB3.out.trans (HB5.out.mono HB3.out.size)
                    obtain ⟨⟨x0, x1, x2, x3⟩, -⟩ := four_of ((HB5.out.block _ (Array.getElem?_eq_some_iff.1 HBX.out).1).trans HBX.out)
                    by_cases hlg : g < m'
                    · obtain ⟨y, hyg⟩ : ∃ y, T[g]? = some y := ⟨_, List.getElem?_eq_getElem (by rw [HMT.out]; exact hlg)⟩
                      have HTK : Hid (T.take (g + 1) = T.take g ++ [y]) := by
                        show T.take (g + 1) = _
                        rw [List.take_add_one, hyg]
                        rfl
                      obtain ⟨ao9, cap9, hvt, -, hot⟩ := HTA.out.open
                      obtain ⟨bu, ofu, hbu, -, hBu, hcu⟩ := hot g y hyg
                      simp only [Value.slice.injEq] at hvt
                      obtain rfl : p' = some ⟨bu, ofu, none⟩ := hvt.1.trans hbu
                      have aa := fun i u hi => (hB25.cell (p := ⟨bu, ofu + (g * EE.sz + i), none⟩) hBu).trans (hcu i u hi)
                      have e0 : wr.cell? ⟨bu, ofu + g * 4, none⟩ = some (.string y.1) := aa 0 _ rfl
                      have e1 : wr.cell? ⟨bu, ofu + g * 4 + 1, none⟩ = some (.int .i64 y.2.1) := aa 1 _ rfl
                      have e2 : wr.cell? ⟨bu, ofu + g * 4 + 2, none⟩ = some (.int .i64 y.2.2.1) := aa 2 _ rfl
                      have e3 : wr.cell? ⟨bu, ofu + g * 4 + 3, none⟩ = some (.int .i64 y.2.2.2) := aa 3 _ rfl
                      have hlg' : (g : Int) < (m' : Int) := by omega
                      have o0 := (cell_older (cell_lt x0) (BE y) 0).trans x0
                      have o1 := (cell_older (cell_lt x0) (BE y) 1).trans x1
                      have o2 := (cell_older (cell_lt x0) (BE y) 2).trans x2
                      have o3 := (cell_older (cell_lt x0) (BE y) 3).trans x3
                      clear aa hcu hot hvt hbu hyg x0 x1 x2 x3
                      by_cases hyx : y = x
                      · have heq : ∀ w', (binOp .eql 30 (VE y) (VE x)).run Try.prog w' = .ok (.bool true) w' := fun w' => by rw [eql_ents, decide_eq_true hyx]
                        have HC2 : Hid (cnt + 1 = (T.take (g + 1)).countP (fun y => decide (y = x))) := by
                          show cnt + 1 = _
                          rw [HTK.out, List.countP_append, ← HCN.out]
                          simp [hyx]
                        clear hyx
                        go_wp2
                        go_roundw
                        case rel => exact ⟨g + 1, cnt + 1, by omega, by omega, by go_num, by go_num, HC2, HB5.out.alloc hsz5 _⟩
                        case measure => simp [intOf]; omega
                      · have heq : ∀ w', (binOp .eql 30 (VE y) (VE x)).run Try.prog w' = .ok (.bool false) w' := fun w' => by rw [eql_ents, decide_eq_false hyx]
                        have HC2 : Hid (cnt = (T.take (g + 1)).countP (fun y => decide (y = x))) := by
                          show cnt = _
                          rw [HTK.out, List.countP_append, ← HCN.out]
                          simp [hyx]
                        clear hyx
                        go_wp2
                        go_roundw
                        case rel => exact ⟨g + 1, cnt, by omega, by omega, by go_num, rfl, HC2, HB5.out.alloc hsz5 _⟩
                        case measure => simp [intOf]; omega
                    · obtain rfl : m' = g := by omega
                      have hc1 : cnt = 1 := by
                        have := HCN.out
                        rw [← HMT.out, List.take_length, HXT.out] at this
                        exact this
                      subst hc1
                      have HB6 : Hid (Below w2.heap.size w2 wr) := hB25
                      clear hB25 x0 x1 x2 x3
                      go_wp2
                      go_roundw
                      case rel => exact ⟨j + 1, by omega, by go_num, HB6⟩
                      case measure => simp [intOf]; omega
                · obtain rfl : m = j := by omega
                  have HBF : Hid (Below w.heap.size w wr) := HB2.out.trans (HB.out.mono HB2.out.size)
                  go_wp2_with fail
                  refine (two_any _).mono ?_
                  rintro e w8 ⟨rfl, hb8⟩
                  have HB8 : Hid (Below w.heap.size w w8) := HBF.out.trans (hb8.mono HBF.out.size)
                  clear hb8
                  go_wp2
                  go_ret
                  exact ⟨rfl, HB8.out⟩
        · obtain ⟨n3, hn3⟩ : ∃ n3, n2 = n3 + 1 := ⟨n2 - 1, by omega⟩
          have hlen : ((l.filter (Fo.past c)).take n.toNat).length = n3 + 1 := by rw [← HL2.out]; exact hn3
          obtain ⟨y, hy⟩ : ∃ y, ((l.filter (Fo.past c)).take n.toNat)[n3]? = some y := ⟨_, List.getElem?_eq_getElem (by omega)⟩
          have HLY : Hid (((l.filter (Fo.past c)).take n.toNat).length = n3 + 1 ∧ ((l.filter (Fo.past c)).take n.toNat)[n3]? = some y) := ⟨hlen, hy⟩
          have HN64 : Hid (n.toNat ≤ 64) := by have := HNN.out; show n.toNat ≤ 64; omega
          have HTB : Hid (T.length ≤ 25600 ∧ n3 ≤ 64) := ⟨by have := HW2.out.plain.tl; omega, by omega⟩
          obtain ⟨ao7, cap7, hv7, -, ho7⟩ := HA2.out.open
          simp only [Value.slice.injEq] at hv7
          obtain ⟨b7, off7, hb7, hS7, hL7, hc7⟩ := ho7 n3 y hy
          obtain rfl : p2 = some ⟨b7, off7, none⟩ := hv7.1.trans hb7
          have HC7 : Hid (w2.cell? ⟨b7, off7 + n3 * 4 + 1, none⟩ = some (.int .i64 y.2.1)) := hc7 1 _ rfl
          have HS7 : Hid (wr.heap.size ≤ b7 ∧ b7 < w2.heap.size) := ⟨hS7, hL7⟩
          have hsub : (n2 : Int) - 1 = (n3 : Int) := by omega
          have hlt3 : (n3 : Int) < (n2 : Int) := by omega
          have hn30 : (0 : Int) ≤ (n3 : Int) := by omega
          have hne0 : ((n2 : Int) == 0) = false := by rw [beq_eq_false_iff_ne]; omega
          clear hlen hy hv7 hb7 hS7 hL7 hc7 ho7 hn3 hn0
          by_cases hzM : z < N'
          · have hzM' : (z : Int) < (N' : Int) := by omega
            obtain ⟨x, hxz⟩ : ∃ x, M[z]? = some x := ⟨_, List.getElem?_eq_getElem (by rw [HN'.out]; exact hzM)⟩
            obtain ⟨b, off, rfl, -, hB, hc⟩ := HY.out z x hxz
            have HSX : Hid (x.2.size ≤ maxLen) := HT.out x (List.mem_of_getElem? hxz)
            obtain ⟨what, s⟩ := x
            have HCX : Hid (∀ V, Below w.heap.size w V → V.cell? ⟨b, off + z * 2, none⟩ = some (.int .i64 what) ∧ V.cell? ⟨b, off + z * 2 + 1, none⟩ = some (.string s)) := fun V hV => ⟨(hV.cell (p := ⟨b, off + (z * EP.sz + 0), none⟩) hB).trans (hc 0 _ rfl), (hV.cell (p := ⟨b, off + (z * EP.sz + 1), none⟩) hB).trans (hc 1 _ rfl)⟩
            simp only at HSX
            have HSR0 : Hid (Fo.Right (Fo.stp l next what s).1 (Fo.stp l next what s).2 ∧ next ≤ (Fo.stp l next what s).2 ∧ (Fo.stp l next what s).2 ≤ next + 1 ∧ (Fo.stp l next what s).1.length ≤ l.length + 1) := Fo.stp_right HW2.out.plain.right (by have := HW2.out.plain.nx2; omega)
            obtain ⟨l2, hl2⟩ : ∃ l2, (Fo.stp l next what s).1 = l2 := ⟨_, rfl⟩
            obtain ⟨next2, hnx2⟩ : ∃ next2, (Fo.stp l next what s).2 = next2 := ⟨_, rfl⟩
            have HSR : Hid (Fo.Right l2 next2 ∧ next ≤ next2 ∧ next2 ≤ next + 1 ∧ l2.length ≤ l.length + 1) := by rw [hl2, hnx2] at HSR0; exact HSR0
            have HNX : Hid ((Fo.stp l next what s).1 = l2 ∧ (Fo.stp l next what s).2 = next2) := ⟨hl2, hnx2⟩
            have HNX1 : Hid (next ≤ 100 + (z : Int) ∧ z < 100) := ⟨HW2.out.plain.nx1, by omega⟩
            clear hc hxz hB hl2 hnx2 HSR0
            go_wp2_with (at_builtin; refine wpList_row _ rfl _ _ 22 rfl EE (fun b => wr.heap.size ≤ b) (w.heap.size + 1) 30 i0 _ 40 Try.underlying22 hi hz0 hz1 hz2 rfl _ T rfl HW2.out.told _ ((l.filter (Fo.past c)).take n.toNat) rfl HA2.out (by have := HTB.out; have h9 := HLY.out.1; unfold maxLen; omega) (by have := HTB.out; have h9 := HLY.out.1; omega) (by omega) ?_; intro v7 w7 hrow7 hg7 hloc7; have hg8 : World.grownBy w2 w7 (Value.slice p' m' q').ownBlock := hg7; have c1 : w7.cell? ⟨b7, off7 + n3 * 4 + 1, none⟩ = some (.int .i64 y.2.1) := (cell_block (hg8.block b7 HS7.out.2 (fun e => by have h5 := HTL.out.2 b7 e.symm; have h6 := HS7.out.1; omega))).trans HC7.out; have HW7 : Hid (WkAt w.heap.size w w7 (.slice pv kv cv) (.slice p m q) v7 l next y.2.1 (T ++ (l.filter (Fo.past c)).take n.toNat) St (z + 1)) := HW2.out.page HN64.out HLY.out.1 HLY.out.2 hrow7 hg8 hloc7; obtain ⟨p8, n8, c8, hv8⟩ := hrow7.slice3; subst hv8; clear hrow7 hg7 hloc7 hg8; have hd7 := dir_of HW7.out.box; have d0 := hd7.1.1; have d1 := hd7.1.2; have hk7 := HCX.out _ HW7.out.below; have k0 := hk7.1; have k1 := hk7.2; clear hd7 hk7)
            go_region_with (go_at_call 26; refine (do_any (S := fun b => b ≠ w.heap.size ∧ some b ≠ (Value.slice p8 n8 c8).ownBlock) _ l next what s w7.drew HW7.out.ents HSM.out HSX.out).mono ?_; rintro e w8 ⟨pv2, kv2, cv2, rfl, hu8, hb8⟩; rw [HNX.out.2]; rw [HNX.out.1] at hu8; have hf8 := dir_of ((hb8.block _ (Array.getElem?_eq_some_iff.1 HW7.out.box).1).trans HW7.out.box); have f0 := hf8.1.1; have f1 := hf8.1.2; have ff := hf8.2; clear hf8)
            all_goals
              have HB8 : Hid (Below w7.heap.size w7 w8) := undrew hb8
              have HW8 : Hid (WkAt w.heap.size w w8 (.slice pv kv cv) (.slice p m q) (.slice p8 n8 c8) l next y.2.1 (T ++ (l.filter (Fo.past c)).take n.toNat) St (z + 1)) := HW7.out.up HB8.out
              have hD7 : w.heap.size < w7.heap.size := (Array.getElem?_eq_some_iff.1 HW7.out.box).1
              have HU8 : Hid (At EE (fun b => b ≠ w.heap.size ∧ some b ≠ (Value.slice p8 n8 c8).ownBlock) w8 (.slice pv2 kv2 cv2) l2) := hu8.imp fun b hb _ => by
                rcases hb with hb | hb
                · exact hb
                · have hb' : w7.heap.size ≤ b := hb
                  refine ⟨by omega, fun e => ?_⟩
                  have := (HW7.out.told.lt b e.symm).2
                  omega
              have hpd := put_dir (w := w) (n2 := next2) HW8.out.box (fun b hb => hb.1) HU8.out HW8.out.told HW8.out.below
              obtain ⟨w9, hw9⟩ : ∃ w9, w9 = (w8.setCell ⟨w.heap.size, 0, none⟩ (.slice pv2 kv2 cv2)).setCell ⟨w.heap.size, 1, none⟩ (.int .i64 next2) := ⟨_, rfl⟩
              have HST9 : Hid (At EE (fun b => b ≠ w.heap.size ∧ some b ≠ (Value.slice p8 n8 c8).ownBlock) w9 (.slice p m q) St) := by rw [hw9]; exact At.setCell (At.setCell HW8.out.stay (fun h => h.1 rfl) _) (fun h => h.1 rfl) _
              rw [← hw9] at hpd
              have HD9 : Hid (w9.heap[w.heap.size]? = some (BD (.slice pv2 kv2 cv2) next2)) := hpd.1
              have HE9 : Hid (At EE (fun b => b ≠ w.heap.size ∧ some b ≠ (Value.slice p8 n8 c8).ownBlock) w9 (.slice pv2 kv2 cv2) l2) := hpd.2.1
              have HT9 : Hid (Row EE w9 (w.heap.size + 1) 30 (.slice p8 n8 c8) (T ++ (l.filter (Fo.past c)).take n.toNat)) := hpd.2.2.1
              have HB9 : Hid (Below w.heap.size w w9) := hpd.2.2.2
              have HPL : Hid (Fo.WalkP l next y.2.1 (T ++ (l.filter (Fo.past c)).take n.toNat) St (z + 1)) := HW8.out.plain
              have HMS : Hid (St.length = m) := HW8.out.stay.lenq.symm
              have hms : m ≤ 100 := by have h1 := HPL.out.stl; have h2 := HMS.out; omega
              clear hpd hu8 hb8
              go_wp2
              rw [← hw9]
              clear hw9 f0 f1 ff d0 d1 k0 k1 c1 HW HW2 HW7 HW8 HU8 HB8 HA2 HC7 HS7 HTL
              go_loopw [16, 96] (fun u i wr => ∃ (g : Nat) (R : List Ent) (pr : Option Addr) (mr qr : Nat), g ≤ m ∧ R.length ≤ g ∧ i = .int .i64 g ∧ u = .slice pr mr qr ∧ Hid (Row EE wr w9.heap.size 30 (.slice pr mr qr) R) ∧ Hid (∀ x ∈ R, x ∈ St ∧ x ∈ l2) ∧ Hid (Below w9.heap.size w9 wr)) (fun _ i _ => m - (intOf i).toNat)
              case atStart => exact ⟨0, [], none, 0, 0, Nat.zero_le _, Nat.le_refl _, rfl, rfl, Row.nil _ _ _ _, fun x hx => (by cases hx), Below.refl _ _⟩
              case round =>
                obtain ⟨g, R, pr, mr, qr, hg, hRg, rfl, rfl, HR, HRS, HB⟩ := hrel
                have hsz := HB.out.size
                have hDw : w.heap.size < wr.heap.size := Nat.lt_of_lt_of_le (Array.getElem?_eq_some_iff.1 HD9.out).1 hsz
                by_cases hlg : g < m
                · obtain ⟨x, hxg⟩ : ∃ x, St[g]? = some x := ⟨_, List.getElem?_eq_getElem (by rw [HMS.out]; exact hlg)⟩
                  have HXS : Hid (x ∈ St) := List.mem_of_getElem? hxg
                  obtain ⟨ao9, cap9, hvt, -, hot⟩ := HST9.out.open
                  obtain ⟨bt, oft, hbt, -, hBt, hct⟩ := hot g x hxg
                  simp only [Value.slice.injEq] at hvt
                  obtain rfl : p = some ⟨bt, oft, none⟩ := hvt.1.trans hbt
                  have aa := fun i u hi => (HB.out.cell (p := ⟨bt, oft + (g * EE.sz + i), none⟩) hBt).trans (hct i u hi)
                  have c0 : wr.cell? ⟨bt, oft + g * 4, none⟩ = some (.string x.1) := aa 0 _ rfl
                  have c1 : wr.cell? ⟨bt, oft + g * 4 + 1, none⟩ = some (.int .i64 x.2.1) := aa 1 _ rfl
                  have c2 : wr.cell? ⟨bt, oft + g * 4 + 2, none⟩ = some (.int .i64 x.2.2.1) := aa 2 _ rfl
                  have c3 : wr.cell? ⟨bt, oft + g * 4 + 3, none⟩ = some (.int .i64 x.2.2.2) := aa 3 _ rfl
                  have hlg' : (g : Int) < (m : Int) := by omega
                  have hup := (Below.refl _ wr).alloc (Nat.le_refl _) (BE x)
                  have HB5 : Hid (Below w9.heap.size w9 (wr.alloc (BE x))) := HB.out.alloc hsz _
                  have HX5 : Hid ((wr.alloc (BE x)).heap[wr.heap.size]? = some (BE x)) := heap_alloc_new _ _
                  have HD5 : Hid ((wr.alloc (BE x)).heap[w.heap.size]? = some (BD (.slice pv2 kv2 cv2) next2)) := (HB5.out.block _ (Array.getElem?_eq_some_iff.1 HD9.out).1).trans HD9.out
                  have HA5 : Hid (AtW EE (wr.alloc (BE x)) (.slice pv2 kv2 cv2) l2) := (HE9.out.up HB5.out).wide
                  obtain ⟨⟨d0, d1⟩, -⟩ := dir_of ((HB.out.block _ (Array.getElem?_eq_some_iff.1 HD9.out).1).trans HD9.out)
                  have HSXX : Hid (x.1.size ≤ maxLen) := HSM.out x (HPL.out.sub x HXS.out)
                  have HSM2 : Hid (∀ y ∈ l2, y.1.size ≤ maxLen) := Fo.small_names HSR.out.1
                  obtain ⟨f, hf⟩ : ∃ f, Fo.found l2 next2 x.1 = f := ⟨_, rfl⟩
                  obtain ⟨fe, hfe⟩ : ∃ fe, Fo.findErr l2 next2 x.1 = fe := ⟨_, rfl⟩
                  have HFF : Hid (Fo.found l2 next2 x.1 = f ∧ Fo.findErr l2 next2 x.1 = fe) := ⟨hf, hfe⟩
                  have HMEM : Hid (fe = 0 → f ∈ l2) := fun h => by rw [← hf]; exact Fo.found_mem (hfe.trans h)
                  clear aa hct hot hvt hbt hxg hf hfe
                  go_wp2_with fail
                  refine (find_any _ l2 next2 x.1 _ HA5.out HSM2.out HSXX.out).mono ?_
                  rintro e w6 ⟨rfl, hb6⟩
                  rw [HFF.out.1, HFF.out.2]
                  have hb6' : Below w9.heap.size w9 w6 := HB5.out.trans (hb6.mono HB5.out.size)
                  have hbW : Below (wr.alloc (BE x)).heap.size (wr.alloc (BE x)) (w6.alloc (BE f)) := hb6.alloc hb6.size _
                  have HB7 : Hid (Below w9.heap.size w9 (w6.alloc (BE f))) := hb6'.alloc hb6'.size _
                  have HR7 : Hid (Row EE (w6.alloc (BE f)) w9.heap.size 30 (.slice pr mr qr) R) := (HR.out.up hup).up hbW
                  obtain ⟨⟨x0, x1, x2, x3⟩, -⟩ := four_of ((hbW.block _ (by simp)).trans HX5.out)
                  obtain ⟨⟨y0, y1, y2, y3⟩, -⟩ := four_of (heap_alloc_new w6 (BE f))
                  have hs7 := HB7.out.size
                  have hs6 : w9.heap.size ≤ w6.heap.size := hb6'.size
                  clear hb6 hb6' hbW hup c0 c1 c2 c3 d0 d1
                  by_cases hfe0 : fe = 0
                  · subst hfe0
                    by_cases hfx : f = x
                    · have heq : ∀ w', (binOp .eql 30 (VE f) (VE x)).run Try.prog w' = .ok (.bool true) w' := fun w' => by rw [eql_ents, decide_eq_true hfx]
                      have HML : Hid (x ∈ l2) := by have := HMEM.out rfl; rwa [hfx] at this
                      have HR8 : Hid (Row EE ((w6.alloc (BE f)).alloc (BE x)) w9.heap.size 30 (.slice pr mr qr) R) := HR7.out.up ((Below.refl _ _).alloc (Nat.le_refl _) _)
                      have HB8 : Hid (Below w9.heap.size w9 ((w6.alloc (BE f)).alloc (BE x))) := HB7.out.alloc hs7 _
                      have HO8 : Hid (AtW EE ((w6.alloc (BE f)).alloc (BE x)) (.slice (some ⟨w6.heap.size + 1, 0, none⟩) 1 1) [x]) := by
                        have h2 := heap_alloc_new (w6.alloc (BE f)) (BE x)
                        rw [show (w6.alloc (BE f)).heap.size = w6.heap.size + 1 by simp] at h2
                        exact at_one h2
                      clear hfx
                      go_wp2_with (at_builtin; refine wpList_row _ rfl _ _ 22 rfl EE (fun _ => True) w9.heap.size 30 i0 _ 40 Try.underlying22 hi hz0 hz1 hz2 rfl _ R rfl HR8.out _ [x] rfl HO8.out (by unfold maxLen; simp only [List.length_cons, List.length_nil]; omega) (by simp only [List.length_cons, List.length_nil]; omega) (by simp; omega) ?_; intro v7 wz hrow7 hg7 hloc7)
                      have HEND : Hid (Row EE wz w9.heap.size 30 v7 (R ++ [x]) ∧ Below w9.heap.size w9 wz) := ⟨hrow7, HB8.out.grown hg7 (by simp; omega) (fun k hk => (HR8.out.lt k hk).1)⟩
                      have HRS2 : Hid (∀ y ∈ R ++ [x], y ∈ St ∧ y ∈ l2) := fun y hy => by
                        rcases List.mem_append.1 hy with hy | hy
                        · exact HRS.out y hy
                        · simp at hy
                          subst hy
                          exact ⟨HXS.out, HML.out⟩
                      clear hrow7 hg7 hloc7
                      obtain ⟨p7, n7, c7, rfl⟩ := HEND.out.1.slice3
                      (try go_wp2)
                      go_roundw
                      case rel => exact ⟨g + 1, R ++ [x], p7, n7, c7, by omega, by simp; omega, by go_num, rfl, HEND.out.1, HRS2, HEND.out.2⟩
                      case measure => simp [intOf]; omega
                    · have heq : ∀ w', (binOp .eql 30 (VE f) (VE x)).run Try.prog w' = .ok (.bool false) w' := fun w' => by rw [eql_ents, decide_eq_false hfx]
                      clear hfx
                      go_wp2
                      go_roundw
                      case rel => exact ⟨g + 1, R, pr, mr, qr, by omega, by omega, by go_num, rfl, HR7, HRS, HB7⟩
                      case measure => simp [intOf]; omega
                  · have hfe1 : (fe == 0) = false := beq_eq_false_iff_ne.2 hfe0
                    clear hfe0
                    go_wp2
                    go_roundw
                    case rel => exact ⟨g + 1, R, pr, mr, qr, by omega, by omega, by go_num, rfl, HR7, HRS, HB7⟩
                    case measure => simp [intOf]; omega
                · obtain rfl : m = g := by omega
                  have HWE : Hid (WkAt w.heap.size w wr (.slice pv2 kv2 cv2) (.slice pr mr qr) (.slice p8 n8 c8) l2 next2 y.2.1 (T ++ (l.filter (Fo.past c)).take n.toNat) R (z + 1)) := WkAt.step HPL.out HD9.out HE9.out HT9.out HB9.out HB.out HR.out HRS.out (by omega) HSR.out.1 HSR.out.2.1 (by have h1 := HSR.out.2.2.1; have h2 := HPL.out.nx1; have h3 := HNX1.out; omega) (by have h1 := HSR.out.2.2.1; have h3 := HNX1.out; omega)
                  go_wp2
                  go_roundw
                  case rel => exact ⟨z + 1, y.2.1, l2, next2, T ++ (l.filter (Fo.past c)).take n.toNat, R, .slice pv2 kv2 cv2, pr, mr, qr, p8, n8, c8, by omega, by go_num, rfl, rfl, rfl, HWE⟩
                  case measure => simp [intOf]; omega
          · have hzM' : ¬ (z : Int) < (N' : Int) := by omega
            go_wp2_with (at_builtin; refine wpList_row _ rfl _ _ 22 rfl EE (fun b => wr.heap.size ≤ b) (w.heap.size + 1) 30 i0 _ 40 Try.underlying22 hi hz0 hz1 hz2 rfl _ T rfl HW2.out.told _ ((l.filter (Fo.past c)).take n.toNat) rfl HA2.out (by have := HTB.out; have h9 := HLY.out.1; unfold maxLen; omega) (by have := HTB.out; have h9 := HLY.out.1; omega) (by omega) ?_; intro v7 w7 hrow7 hg7 hloc7; have hg8 : World.grownBy w2 w7 (Value.slice p' m' q').ownBlock := hg7; have c1 : w7.cell? ⟨b7, off7 + n3 * 4 + 1, none⟩ = some (.int .i64 y.2.1) := (cell_block (hg8.block b7 HS7.out.2 (fun e => by have h5 := HTL.out.2 b7 e.symm; have h6 := HS7.out.1; omega))).trans HC7.out; have HW7 : Hid (WkAt w.heap.size w w7 (.slice pv kv cv) (.slice p m q) v7 l next y.2.1 (T ++ (l.filter (Fo.past c)).take n.toNat) St (z + 1)) := HW2.out.page HN64.out HLY.out.1 HLY.out.2 hrow7 hg8 hloc7; obtain ⟨p8, n8, c8, hv8⟩ := hrow7.slice3; subst hv8; clear hrow7 hg7 hloc7 hg8)
            (try go_wp2)
            go_roundw
            case rel => exact ⟨z + 1, y.2.1, l, next, T ++ (l.filter (Fo.past c)).take n.toNat, St, .slice pv kv cv, p, m, q, p8, n8, c8, by omega, by go_num, rfl, rfl, rfl, HW7⟩
            case measure => simp [intOf]; omega

set_option maxRecDepth 100000 in
theorem folderWalk_lifted (os : Os) (started : os.Started) (H : Type) (enc : TypeId × Value → H) :
    ReturnsInHanded {} Try.checked os 7 .any (Rows.folderWalkSpec.pre6 enc Try.prog Try.f7 Rows.folderWalkRow.domain false) (Rows.folderWalkSpec.post enc Try.prog Try.f7 false true false false) := by
  refine returnsInHanded_of_change (C := Try.checked) own started (by kernel_rfl) Try.func7
    (ChangeSpec.witness6 (enc := enc) (C := Try.checked) false ⟨#[], #[.slice none 0 0, .slice none 0 0, .int .i64 0], []⟩ 8 (by kernel_rfl) (by kernel_rfl) (by kernel_rfl) (by kernel_rfl)) ?_
  intro W base args ds gs before hval0 hW hcnd _
  have hval : ∀ (j : Nat) t v, Try.f7.params[j]? = some t → args[j]? = some v → Value.okWide Try.prog W .any base t v := hval0
  have hW' := hW
  obtain ⟨p, q, hA0, hV, rfl, hfz, hnd⟩ := hW
  have hA : DataW.TrodAll enc Try.prog W 0 (fun _ => true) true Try.f7.params.toList args.toList ds p := hA0
  rw [Try.params7] at hA hval
  obtain ⟨v0, v1, v2, d0, d1, d2, p0, p1, p2, rfl, rfl, rfl, h0, h1, h2⟩ := trodAll_three hA
  obtain ⟨rfl, rfl⟩ := trodVars_none hV
  obtain ⟨L, hL, hs⟩ := open_steps (okWide_slice Try.underlying58 (hval 0 58 v0 rfl rfl)) h0
  obtain ⟨M, hM, ht⟩ := open_steps (okWide_slice Try.underlying58 (hval 1 58 v1 rfl rfl)) h1
  obtain ⟨n, rfl, -, -, -⟩ := open_int Try.underlying3 (hval 2 3 v2 rfl rfl) h2
  refine (walk_any v0 v1 L M n W hL hM hs ht).mono fun e W' ⟨he, hg⟩ => ⟨_, he, ?_⟩
  exact Law.post laidOut (by kernel_rfl) rfl Try.underlying4 hW' rfl rfl hg

theorem folderWalk_holds : Rows.FolderWalkSaid :=
  OpenClaim.holds_of_wide 7 Try.f7 rfl rfl rfl rfl rfl rfl rfl ⟨rfl, rfl, rfl, rfl, rfl⟩ rfl rfl rfl rfl rfl (by kernel_rfl) Try.func7 (by kernel_rfl)
    (of_decide_eq_true (by kernel_rfl)) (by unfold Func.isWrapper; first | (rw [if_pos (by decide +kernel)]; kernel_rfl) | (rw [if_neg (by decide +kernel)]; exact ⟨rfl, rfl⟩))
    (fun os started H enc _ => folderWalk_lifted os started H enc)
#print axioms folderWalk_holds
end Go.Proofs.Ytlpnkcolpgodjaa
