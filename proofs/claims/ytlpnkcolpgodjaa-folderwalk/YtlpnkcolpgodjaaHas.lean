/-
  FolderHas: for every list of steps the call answers true, and the argument reads as before. No condition.
-/
import Derived.Test.YtlpnkcolpgodjaaDo
import Derived.Deep.AppendSrc
namespace Go.Proofs.Ytlpnkcolpgodjaa
open Go.ChangeShapes Go.WideShapes Go.ChangeAt Go.RowKit Go.Deep
def ES : Enc ByteArray := ⟨1, fun x => [.string x], fun _ => rfl, fun x u hu => by
  simp at hu
  subst hu
  rfl⟩
/-- Steps: what, and a name. -/
def EP : Enc (Int × ByteArray) := ⟨2, fun x => [.int .i64 x.1, .string x.2], fun _ => rfl, fun x u hu => by
  simp at hu
  rcases hu with rfl | rfl <;> rfl⟩
theorem infoS : (Try.prog.info? 9).map (fun i => (i.zero, i.size, i.bytes)) = some (some (.string ⟨#[]⟩), 1, 16) := by kernel_rfl
theorem at_oneS {w : World} {B : Nat} {x : ByteArray} (h : w.heap[B]? = some (.cells #[.string x] 9)) : AtW ES w (.slice (some ⟨B, 0, none⟩) 1 1) [x] := by
  refine .inr ⟨B, 0, 1, rfl, trivial, (Array.getElem?_eq_some_iff.1 h).1, by simp, by simp, by decide, fun j u hj => ?_⟩
  simp only [World.cell?, h, Nat.zero_add]
  simpa [Enc.flat, ES] using hj
theorem At.lenq {α : Type} {E : Enc α} {S : Nat → Prop} {w : World} {p : Option Addr} {n q : Nat} {l : List α} (h : At E S w (.slice p n q) l) : n = l.length := by
  obtain ⟨ao, cap, hv, -, -⟩ := h.open
  simp only [Value.slice.injEq] at hv
  exact hv.2.1
theorem Row.lenq {α : Type} {E : Enc α} {w : World} {B n q : Nat} {e : TypeId} {p : Option Addr} {l : List α} (h : Row E w B e (.slice p n q) l) : n = l.length := h.at.lenq
theorem set_dir {w : World} {A : Nat} {v u : Value} {b d : Int} (h : w.heap[A]? = some (BD v b)) : ((w.setCell ⟨A, 0, none⟩ u).setCell ⟨A, 1, none⟩ (.int .i64 d)).heap[A]? = some (BD u d) := by
  have h1 : (w.setCell ⟨A, 0, none⟩ u).heap[A]? = some (BD u b) := by
    rw [setCell_eq_setRow w A 0 _ _ _ _ h, setRow_heap w A _ _ _ _ h]
    rfl
  rw [setCell_eq_setRow _ A 1 _ _ _ _ h1, setRow_heap _ A _ _ _ _ h1]
  rfl
theorem grown_set (w : World) (A j : Nat) (v : Value) : w.grownBy (w.setCell ⟨A, j, none⟩ v) (some A) := ⟨rfl, rfl, rfl, by simp [World.setCell], fun k _ hk => Below.heap_setCell _ _ _ _ (fun e => hk (by rw [e]))⟩
theorem eql_ent (w : World) (x : Ent) : (binOp .neq 30 (VE x) (VE x)).run Try.prog w = .ok (.bool false) w := by
  obtain ⟨x0, x1, x2, x3⟩ := x
  have t0 : (x0.toList == x0.toList) = true := beq_self_eq_true _
  have t1 : (x1 == x1) = true := beq_self_eq_true _
  have t2 : (x2 == x2) = true := beq_self_eq_true _
  have t3 : (x3 == x3) = true := beq_self_eq_true _
  go_simp
namespace Fo
def nms (l : List Ent) : List ByteArray := l.map fun x => x.1
theorem nms_len (l : List Ent) : (nms l).length = l.length := by simp [nms]
theorem nms_at {l : List Ent} {k : Nat} {x : Ent} (h : l[k]? = some x) : (nms l)[k]? = some x.1 := by simp [nms, h]
/-- Where a name was met last among the first q. -/
def lastAt (l : List Ent) (s : ByteArray) (q : Nat) (t : Int) : Prop := (t = -1 ∧ ∀ (j : Nat) (y : Ent), j < q → l[j]? = some y → y.1 ≠ s) ∨ ∃ (j : Nat) (y : Ent), j < q ∧ t = (j : Int) ∧ l[j]? = some y ∧ y.1 = s
theorem lastAt_hit {l : List Ent} {s : ByteArray} {q : Nat} {y : Ent} (h : l[q]? = some y) (hy : y.1 = s) : lastAt l s (q + 1) q := .inr ⟨q, y, by omega, rfl, h, hy⟩
theorem lastAt_miss {l : List Ent} {s : ByteArray} {q : Nat} {y : Ent} {t : Int} (h : l[q]? = some y) (hy : y.1 ≠ s) (ht : lastAt l s q t) : lastAt l s (q + 1) t := by
  rcases ht with ⟨h1, h2⟩ | ⟨j, z, h1, h2, h3, h4⟩
  · refine .inl ⟨h1, fun j z hj hz => ?_⟩
    by_cases e : j = q
    · subst e
      rw [h] at hz
      cases hz
      exact hy
    · exact h2 j z (by omega) hz
  · exact .inr ⟨j, z, by omega, h2, h3, h4⟩
theorem lastAt_end {l : List Ent} {next : Int} {s : ByteArray} {t : Int} (hr : Right l next) (h : lastAt l s l.length t) : t = at' (called s) l := by
  rcases h with ⟨h1, h2⟩ | ⟨j, z, h1, h2, h3, h4⟩
  · rw [h1, at_miss fun j y hj hy => called_not.2 (h2 j y hj hy)]
  · subst h4
    rw [h2, (found_at hr h3).2.2]
theorem small_names {l : List Ent} {next : Int} (h : Right l next) : ∀ x ∈ l, x.1.size ≤ maxLen := fun x hx => by
  have := ((right_iff.1 h).2.1 x hx).1.2.1
  exact Nat.le_trans this (by decide)
theorem nms_cut (l : List Ent) (k : Nat) : nms (l.eraseIdx k) = (nms l).take k ++ (nms l).drop (k + 1) := by
  unfold nms
  rw [List.eraseIdx_eq_take_drop_succ, List.map_append, List.map_take, List.map_drop]
end Fo
theorem Row.weak {α : Type} {E : Enc α} {w : World} {B B' : Nat} {e : TypeId} {v : Value} {ls : List α} (h : Row E w B e v ls) (hB : B' ≤ B) : Row E w B' e v ls := by
  rcases h with h | ⟨g, cap, cur, h1, h2, h3⟩
  · exact .inl h
  · exact .inr ⟨g, cap, cur, h1, by omega, h3⟩
/-- Steps that came in. -/
abbrev OverP (w : World) (ao : Option Addr) (L : List (Int × ByteArray)) : Prop := ∀ i x, L[i]? = some x → ∃ b off, ao = some ⟨b, off, none⟩ ∧ True ∧ b < w.heap.size ∧ ∀ k u, (EP.cells x)[k]? = some u → w.cell? ⟨b, off + (i * EP.sz + k), none⟩ = some u
/-- How the walk stands: the folder's box, the folder, its names, its last cookie. -/
structure HasAt (D : Nat) (w wr : World) (vv uu : Value) (l : List Ent) (next : Int) (k : Nat) : Prop where
  box : wr.heap[D]? = some (BD vv next)
  ents : At EE (fun b => b ≠ D ∧ some b ≠ uu.ownBlock) wr vv l
  have' : Row ES wr (D + 1) 9 uu (Fo.nms l)
  right : Fo.Right l next
  nextk : next ≤ k
  lenk : l.length ≤ k
  below : Below D w wr
theorem HasAt.up {D : Nat} {w wr w' : World} {vv uu : Value} {l : List Ent} {next : Int} {k : Nat} (h : HasAt D w wr vv uu l next k) (hD : D ≤ wr.heap.size) (hb : Below wr.heap.size wr w') : HasAt D w w' vv uu l next k :=
  ⟨(hb.block _ (Array.getElem?_eq_some_iff.1 h.box).1).trans h.box, h.ents.up hb, h.have'.up hb, h.right, h.nextk, h.lenk, h.below.trans (hb.mono hD)⟩
theorem HasAt.more {D : Nat} {w wr : World} {vv uu : Value} {l : List Ent} {next : Int} {k k' : Nat} (h : HasAt D w wr vv uu l next k) (hk : k ≤ k') : HasAt D w wr vv uu l next k' := ⟨h.box, h.ents, h.have', h.right, by have := h.nextk; omega, by have := h.lenk; omega, h.below⟩
set_option maxRecDepth 100000 in
set_option maxHeartbeats 16000000 in
theorem has_any (v : Value) (L : List (Int × ByteArray)) (w : World) (hv : AtW EP w v L) (hs : ∀ x ∈ L, x.2.size ≤ maxLen) :
    Calls Try.prog 6 #[v] w fun e w' => e = .returned (.bool true) ∧ Below w.heap.size w w' := by
  obtain ⟨ao, cap, rfl, hm, hx⟩ := hv.open
  clear hv
  unfold maxLen at hm
  obtain ⟨N, hN⟩ : ∃ N, L.length = N := ⟨_, rfl⟩
  rw [hN] at hm ⊢
  have HN : Hid (L.length = N) := hN
  have HX : Hid (OverP w ao L) := hx
  have HS : Hid (∀ x ∈ L, x.2.size ≤ maxLen) := hs
  clear hN hx hs
  by_cases h200 : 200 < N
  · have h200' : (200 : Int) < (N : Int) := by omega
    go_enter Try.func6, Try.ntmps6
    go_wp2_with fail
    refine (two_any _).mono ?_
    rintro e w2 ⟨rfl, hb⟩
    go_wp2
    go_ret
    exact ⟨rfl, hb⟩
  have h200' : ¬ (200 : Int) < (N : Int) := by omega
  obtain ⟨i0, hi, hz0, hz1, hz2⟩ := info_parts infoS
  have HI : Hid (HasAt w.heap.size w (w.alloc BZD) (.slice none 0 0) (.slice none 0 0) [] 0 0) := ⟨heap_alloc_new w BZD, At.nil, Row.nil _ _ _ _, Fo.right_0, Int.le_refl _, Nat.le_refl _, (Below.refl _ _).alloc (Nat.le_refl _) _⟩
  go_enter Try.func6, Try.ntmps6
  go_wp2
  go_loopw [4, 5, 24] (fun u t i wr => ∃ (k : Nat) (l : List Ent) (next : Int) (vv : Value) (p : Option Addr) (m q : Nat), k ≤ N ∧ i = .int .i64 k ∧ t = .int .i64 next ∧ u = .slice p m q ∧ Hid (HasAt w.heap.size w wr vv (.slice p m q) l next k)) (fun _ _ i _ => N - (intOf i).toNat)
  case atStart => exact ⟨0, [], 0, .slice none 0 0, none, 0, 0, Nat.zero_le _, rfl, rfl, rfl, HI⟩
  case round =>
    obtain ⟨k, l, next, vv, p, m, q, hk, rfl, rfl, rfl, HH⟩ := hrel
    obtain ⟨pv0, cv0, rfl, -, -⟩ := HH.out.ents.open
    obtain ⟨kv, hkv⟩ : ∃ kv, l.length = kv := ⟨_, rfl⟩
    rw [hkv] at HH
    have HLM : Hid (l.length = m) := (Row.lenq HH.out.have').symm ▸ (Fo.nms_len l).symm
    have hsz := HH.out.below.size
    have hDl : w.heap.size < wr.heap.size := (Array.getElem?_eq_some_iff.1 HH.out.box).1
    have hm200 : m ≤ 200 := by have h1 := HLM.out; have h2 := HH.out.lenk; omega
    clear hkv
    by_cases hlt : k < N
    · obtain ⟨x, hxk⟩ : ∃ x, L[k]? = some x := ⟨_, List.getElem?_eq_getElem (by rw [HN.out]; exact hlt)⟩
      obtain ⟨b, off, rfl, -, hB, hc⟩ := HX.out k x hxk
      have HSX : Hid (x.2.size ≤ maxLen) := HS.out x (List.mem_of_getElem? hxk)
      obtain ⟨what, s⟩ := x
      have a := fun j u hj => (HH.out.below.cell (p := ⟨b, off + (k * EP.sz + j), none⟩) hB).trans (hc j u hj)
      have c0 : wr.cell? ⟨b, off + k * 2, none⟩ = some (.int .i64 what) := a 0 _ rfl
      have c1 : wr.cell? ⟨b, off + k * 2 + 1, none⟩ = some (.string s) := a 1 _ rfl
      simp only at HSX
      clear a hc hxk
      have hlt' : (k : Int) < (N : Int) := by omega
      obtain ⟨⟨d0, d1⟩, -⟩ := dir_of HH.out.box
      have HH1 : Hid (HasAt w.heap.size w (wr.alloc (BS what s)) (.slice pv0 kv cv0) (.slice p m q) l next k) := HH.out.up hsz ((Below.refl _ _).alloc (Nat.le_refl _) _)
      have HA1 : Hid ((wr.alloc (BS what s)).heap[wr.heap.size]? = some (BS what s)) := heap_alloc_new wr _
      have HSM : Hid (∀ y ∈ l, y.1.size ≤ maxLen) := Fo.small_names HH.out.right
      go_wp2_with fail
      refine (do_any _ l next what s _ HH1.out.ents HSM.out HSX.out).mono ?_
      rintro e w2 ⟨pv, kv2, cv, rfl, hu2, hb2⟩
      have HSR : Hid (Fo.Right (Fo.stp l next what s).1 (Fo.stp l next what s).2 ∧ next ≤ (Fo.stp l next what s).2 ∧ (Fo.stp l next what s).2 ≤ next + 1 ∧ (Fo.stp l next what s).1.length ≤ l.length + 1) := Fo.stp_right HH.out.right (by have := HH.out.nextk; omega)
      obtain ⟨l2, hl2⟩ : ∃ l2, (Fo.stp l next what s).1 = l2 := ⟨_, rfl⟩
      obtain ⟨next2, hnx2⟩ : ∃ next2, (Fo.stp l next what s).2 = next2 := ⟨_, rfl⟩
      rw [hl2, hnx2] at HSR
      rw [hl2] at hu2
      rw [hnx2]
      have HL2 : Hid ((Fo.stp l next what s).1 = l2 ∧ (Fo.stp l next what s).2 = next2) := ⟨hl2, hnx2⟩
      have HH2 : Hid (HasAt w.heap.size w w2 (.slice pv0 kv cv0) (.slice p m q) l next k) := HH1.out.up HH1.out.below.size hb2
      have HU2 : Hid (At EE (fun b => b ≠ w.heap.size ∧ some b ≠ (Value.slice p m q).ownBlock) w2 (.slice pv kv2 cv) l2) := hu2.imp fun b hb _ => by
        rcases hb with hb | hb
        · exact hb
        · simp at hb
          refine ⟨by omega, fun e => ?_⟩
          have := (HH.out.have'.lt b e.symm).2
          omega
      have HA2 : Hid (w2.heap[wr.heap.size]? = some (BS what s)) := (hb2.block _ (by simp)).trans HA1.out
      obtain ⟨⟨f0, f1⟩, ff⟩ := dir_of HH2.out.box
      obtain ⟨w3, hw3⟩ : ∃ w3, w3 = (w2.setCell ⟨w.heap.size, 0, none⟩ (.slice pv kv2 cv)).setCell ⟨w.heap.size, 1, none⟩ (.int .i64 next2) := ⟨_, rfl⟩
      have HD3 : Hid (w3.heap[w.heap.size]? = some (BD (.slice pv kv2 cv) next2)) := by rw [hw3]; exact set_dir HH2.out.box
      have HE3 : Hid (At EE (fun b => b ≠ w.heap.size ∧ some b ≠ (Value.slice p m q).ownBlock) w3 (.slice pv kv2 cv) l2) := by rw [hw3]; exact At.setCell (At.setCell HU2.out (fun h => h.1 rfl) _) (fun h => h.1 rfl) _
      have HR3 : Hid (Row ES w3 (w.heap.size + 1) 9 (.slice p m q) (Fo.nms l)) := by
        have hne : (Value.slice p m q).ownBlock = none ∨ (Value.slice p m q).ownBlock ≠ some w.heap.size := by
          right
          intro e
          have := (HH2.out.have'.lt _ e).1
          omega
        rw [hw3]
        exact (HH2.out.have'.kept (grown_set _ _ _ _) hne).kept (grown_set _ _ _ _) hne
      have HB3 : Hid (Below w.heap.size w w3) := by rw [hw3]; exact Below.setCell (Below.setCell HH2.out.below (by simp) _) (by simp) _
      have HA3 : Hid (w3.heap[wr.heap.size]? = some (BS what s)) := by
        rw [hw3]
        exact (Below.heap_setCell _ _ _ _ (by show wr.heap.size ≠ w.heap.size; omega)).trans ((Below.heap_setCell _ _ _ _ (by show wr.heap.size ≠ w.heap.size; omega)).trans HA2.out)
      have HRL : Hid (Fo.Right l next) := HH.out.right
      have HRT : Hid (Fo.Right l2 next2 ∧ next2 ≤ ((k + 1 : Nat) : Int) ∧ l2.length ≤ k + 1) := ⟨HSR.out.1, by have h1 := HSR.out.2.2.1; have h2 := HH.out.nextk; omega, by have h1 := HSR.out.2.2.2; have h2 := HH.out.lenk; omega⟩
      have hnb : next < 1099511627776 := by have := HH.out.nextk; omega
      have hnk : 0 ≤ next ∧ next ≤ 200 := ⟨HRL.out.1.1, by have := HH.out.nextk; omega⟩
      obtain ⟨hnk0, hnk1⟩ := hnk
      clear hl2 hnx2 hu2 hb2 HH1 HA1 HU2 HSR HH HH2 HA2
      go_wp2
      rw [← hw3]
      clear hw3 f0 f1 ff d0 d1 c0 c1
      obtain ⟨s0, s1⟩ := step_of HA3.out
      go_loopw [8, 33] (fun t i wr => ∃ (z : Nat) (tv : Int), z ≤ m ∧ i = .int .i64 z ∧ t = .int .i64 tv ∧ Hid (Fo.lastAt l s z tv) ∧ wr = w3) (fun _ i _ => m - (intOf i).toNat)
      case atStart => exact ⟨0, -1, Nat.zero_le _, rfl, rfl, .inl ⟨rfl, fun j y hj => by omega⟩, rfl⟩
      case round =>
        obtain ⟨z, tv, hz, rfl, rfl, HLA, hwr⟩ := hrel
        obtain rfl : w3 = wr := hwr.symm
        clear hwr
        by_cases hlz : z < m
        · obtain ⟨y, hyz⟩ : ∃ y, l[z]? = some y := ⟨_, List.getElem?_eq_getElem (by rw [HLM.out]; exact hlz)⟩
          have HYZ : Hid (l[z]? = some y) := hyz
          obtain ⟨ao9, cap9, hvs, -, hos⟩ := HR3.out.at.open
          obtain ⟨bs, ofs, hbs, -, hBs, hcs⟩ := hos z y.1 (Fo.nms_at hyz)
          simp only [Value.slice.injEq] at hvs
          have g0 : w3.cell? ⟨bs, ofs + z, none⟩ = some (.string y.1) := by have := hcs 0 _ rfl; rwa [show ES.sz = 1 from rfl, Nat.mul_one, Nat.add_zero] at this
          obtain rfl : p = some ⟨bs, ofs, none⟩ := hvs.1.trans hbs
          have hlz' : (z : Int) < (m : Int) := by omega
          clear hvs hos hbs hBs hcs hyz
          by_cases hy : y.1 = s
          · have HL : Hid (Fo.lastAt l s (z + 1) z) := Fo.lastAt_hit HYZ.out hy
            have t1 : (y.1.toList == s.toList) = true := by rw [hy]; exact beq_self_eq_true _
            clear hy
            go_wp2
            go_roundw
            case rel => exact ⟨z + 1, z, by omega, by go_num, rfl, HL, trivial⟩
            case measure => simp [intOf]; omega
          · have HL : Hid (Fo.lastAt l s (z + 1) tv) := Fo.lastAt_miss HYZ.out hy HLA.out
            have t1 : (y.1.toList == s.toList) = false := Fo.called_not.2 hy
            clear hy
            go_wp2
            go_roundw
            case rel => exact ⟨z + 1, tv, by omega, by go_num, rfl, HL, trivial⟩
            case measure => simp [intOf]; omega
        · obtain rfl : m = z := by omega
          have HTV : Hid (tv = Fo.at' (Fo.called s) l) := Fo.lastAt_end HRL.out (by rw [HLM.out]; exact HLA.out)
          clear hlz
          by_cases w0 : what = 0
          · subst w0
            have HAD : Hid (Fo.adds 0 = true) := rfl
            by_cases hT : Fo.at' (Fo.called s) l = -1
            · obtain rfl : tv = -1 := HTV.out.trans hT
              by_cases hok : Nm.ok s
              · have HST : Hid (Fo.stp l next 0 s = (l ++ [(s, next + 1, 1, 1)], next + 1)) := Fo.stp_add0 HAD.out ((Fo.add_iff HRL.out hnb).2 ⟨hok, hT⟩)
                obtain ⟨HL2a, hnx⟩ : Hid (l2 = l ++ [(s, next + 1, 1, 1)]) ∧ next + 1 = next2 := by rw [HST.out] at HL2; exact ⟨HL2.out.1.symm, HL2.out.2⟩
                have HNE : Hid (Nm.err s = 0) := Nm.err_ok hok
                have HR4 : Hid (Row ES (w3.alloc (.cells #[.string s] 9)) (w.heap.size + 1) 9 (.slice p m q) (Fo.nms l)) := HR3.out.up ((Below.refl _ _).alloc (Nat.le_refl _) _)
                have HO4 : Hid (AtW ES (w3.alloc (.cells #[.string s] 9)) (.slice (some ⟨w3.heap.size, 0, none⟩) 1 1) [s]) := at_oneS (heap_alloc_new w3 _)
                have HE4 : Hid (At EE (fun b => (b ≠ w.heap.size ∧ some b ≠ (Value.slice p m q).ownBlock) ∧ b < w3.heap.size) (w3.alloc (.cells #[.string s] 9)) (.slice pv kv2 cv) l2) := (HE3.out.imp (fun b h1 h2 => ⟨h1, h2⟩)).up ((Below.refl _ _).alloc (Nat.le_refl _) _)
                have HB4 : Hid (Below w.heap.size w (w3.alloc (.cells #[.string s] 9))) := HB3.out.alloc HB3.out.size _
                have HD4 : Hid ((w3.alloc (.cells #[.string s] 9)).heap[w.heap.size]? = some (BD (.slice pv kv2 cv) next2)) := (Below.heap_alloc _ _ _ (Array.getElem?_eq_some_iff.1 HD3.out).1).trans HD3.out
                have hD3 : w.heap.size < w3.heap.size := (Array.getElem?_eq_some_iff.1 HD3.out).1
                have HNL : Hid ((Fo.nms l).length ≤ 200) := by show (Fo.nms l).length ≤ 200; rw [Fo.nms_len, HLM.out]; exact hm200
                obtain ⟨nn, hnn⟩ : ∃ nn, l2.length = nn := ⟨_, rfl⟩
                have HNN : Hid (l2.length = nn) := hnn
                obtain rfl : kv2 = nn := HE3.out.lenq.trans hnn
                clear hok hT hnn
                go_wp2_with fail
                refine (rname_any s _ HSX.out).mono ?_
                rintro e w4 ⟨rfl, hw4⟩
                obtain rfl : w3 = w4 := hw4.symm
                clear hw4
                rw [HNE.out]
                go_wp2_with (at_builtin; refine wpList_row _ rfl _ _ 59 rfl ES (fun _ => True) (w.heap.size + 1) 9 i0 _ 16 Try.underlying59 hi hz0 hz1 hz2 rfl _ (Fo.nms l) rfl HR4.out _ [s] rfl HO4.out (by have := HNL.out; unfold maxLen; simp only [List.length_cons, List.length_nil]; omega) (by have := HNL.out; simp only [List.length_cons, List.length_nil]; omega) (by simp; omega) ?_; intro v7 w7 hrow7 hg7 hloc7; have hg8 : World.grownBy _ w7 (Value.slice p m q).ownBlock := hg7; have HF0 : Hid (HasAt w.heap.size w w7 (.slice pv kv2 cv) v7 l2 next2 (k + 1)) := HasAt.mk ((hg8.block _ (by simp; omega) (fun e => by have := (HR4.out.lt _ e.symm).1; omega)).trans HD4.out) ((HE4.out.grown hg8 (fun g hg h => h.1.2 hg.symm)).imp (fun b h _ => ⟨h.1.1, fun e => hloc7.elim (fun h7 => h.1.2 (e.trans h7)) (fun h7 => by have h9 := h7 b e.symm; simp at h9; have := h.2; omega)⟩)) (by rw [HL2a.out]; unfold Fo.nms; rw [List.map_append]; exact hrow7) HRT.out.1 HRT.out.2.1 HRT.out.2.2 (HB4.out.grown hg8 (by simp; omega) (fun k hk => by have := (HR4.out.lt k hk).1; omega)); obtain ⟨p8, n8, c8, hv8⟩ := hrow7.slice3; subst hv8; obtain rfl : n8 = kv2 := (by rw [Row.lenq HF0.out.have', Fo.nms_len, HNN.out]); clear hrow7 hg7 hloc7 hg8; have hd8 := dir_of HF0.out.box; have e2 := hd8.1.1; have e3 := hd8.1.2; clear hd8)
                have HF : Hid (HasAt w.heap.size w w7 (.slice pv n8 cv) (.slice p8 n8 c8) l2 next2 (k + 1)) := HF0
                have hn8 : n8 ≤ 201 := by have h1 := HNN.out; have h2 := HRT.out.2.2; omega
                clear e2 e3 HF0
                go_loopw [102] (fun i wr => ∃ z : Nat, z ≤ n8 ∧ i = .int .i64 z ∧ Hid (Below w7.heap.size w7 wr)) (fun i _ => n8 - (intOf i).toNat)
                case atStart => exact ⟨0, Nat.zero_le _, rfl, Below.refl _ _⟩
                case round =>
                  obtain ⟨z, hz, rfl, HBZ⟩ := hrel
                  have HF3 : Hid (HasAt w.heap.size w wr (.slice pv n8 cv) (.slice p8 n8 c8) l2 next2 (k + 1)) := HF.out.up HF.out.below.size HBZ.out
                  have hszz := HBZ.out.size
                  obtain ⟨⟨d0, d1⟩, -⟩ := dir_of HF3.out.box
                  by_cases hlz : z < n8
                  · obtain ⟨x, hxz⟩ : ∃ x, l2[z]? = some x := ⟨_, List.getElem?_eq_getElem (by rw [HNN.out]; exact hlz)⟩
                    have HFD : Hid (Fo.findErr l2 next2 x.1 = 0 ∧ Fo.found l2 next2 x.1 = x) := ⟨(Fo.found_at HF3.out.right hxz).1, (Fo.found_at HF3.out.right hxz).2.1⟩
                    obtain ⟨ao8, cap8, hve, -, hoe⟩ := HF3.out.ents.open
                    obtain ⟨be, ofe, hbe, -, hBe, hce⟩ := hoe z x hxz
                    simp only [Value.slice.injEq] at hve
                    obtain ⟨ao9, cap9, hvs, -, hos⟩ := HF3.out.have'.at.open
                    obtain ⟨bs, ofs, hbs, -, hBs, hcs⟩ := hos z x.1 (Fo.nms_at hxz)
                    simp only [Value.slice.injEq] at hvs
                    obtain rfl : pv = some ⟨be, ofe, none⟩ := hve.1.trans hbe
                    obtain rfl : p8 = some ⟨bs, ofs, none⟩ := hvs.1.trans hbs
                    have g0 : wr.cell? ⟨bs, ofs + z, none⟩ = some (.string x.1) := by have := hcs 0 _ rfl; rwa [show ES.sz = 1 from rfl, Nat.mul_one, Nat.add_zero] at this
                    have HCE : Hid (be < wr.heap.size ∧ ∀ k u, (EE.cells x)[k]? = some u → wr.cell? ⟨be, ofe + (z * EE.sz + k), none⟩ = some u) := ⟨hBe, hce⟩
                    have HAE : Hid (AtW EE wr (.slice (some ⟨be, ofe, none⟩) n8 cv) l2) := HF3.out.ents.wide
                    have HSM : Hid (∀ y ∈ l2, y.1.size ≤ maxLen) := Fo.small_names HF3.out.right
                    have HSX : Hid (x.1.size ≤ maxLen) := HSM.out x (List.mem_of_getElem? hxz)
                    have hlz' : (z : Int) < (n8 : Int) := by omega
                    clear hve hoe hbe hBe hce hvs hos hbs hBs hcs hxz
                    go_wp2_with fail
                    refine (find_any _ l2 next2 x.1 _ HAE.out HSM.out HSX.out).mono ?_
                    rintro e w9 ⟨rfl, hb9⟩
                    rw [HFD.out.1, HFD.out.2]
                    obtain ⟨WA, hWA⟩ : ∃ WA, WA = w9.alloc (BE x) := ⟨_, rfl⟩
                    have hb9a : Below wr.heap.size wr WA := by rw [hWA]; exact hb9.alloc hb9.size _
                    have HB9 : Hid (Below w7.heap.size w7 WA) := HBZ.out.trans (hb9a.mono hszz)
                    have j0 := cell_step d0 hb9a
                    have aa := fun j u hj => (hb9a.cell (p := ⟨be, ofe + (z * EE.sz + j), none⟩) HCE.out.1).trans (HCE.out.2 j u hj)
                    have c0 : WA.cell? ⟨be, ofe + z * 4, none⟩ = some (.string x.1) := aa 0 _ rfl
                    have c1 : WA.cell? ⟨be, ofe + z * 4 + 1, none⟩ = some (.int .i64 x.2.1) := aa 1 _ rfl
                    have c2 : WA.cell? ⟨be, ofe + z * 4 + 2, none⟩ = some (.int .i64 x.2.2.1) := aa 2 _ rfl
                    have c3 : WA.cell? ⟨be, ofe + z * 4 + 3, none⟩ = some (.int .i64 x.2.2.2) := aa 3 _ rfl
                    have hx4 := (four_of (heap_alloc_new w9 (BE x))).1
                    rw [← hWA] at hx4
                    obtain ⟨y0, y1, y2, y3⟩ := hx4
                    have heq := fun w' => eql_ent w' x
                    clear hb9 hb9a aa g0 d0 d1
                    go_wp2
                    rw [← hWA]
                    clear hWA
                    go_quiet (fail)
                    go_wp2
                    go_roundw
                    case rel => exact ⟨z + 1, by omega, by go_num, below_drewN HB9.out _⟩
                    case measure => simp [intOf]; omega
                  · obtain rfl : z = n8 := by omega
                    go_wp2
                    go_roundw
                    case rel => exact ⟨k + 1, l2, next2, .slice pv z cv, p8, z, c8, by omega, by go_num, rfl, rfl, HF3⟩
                    case measure => simp [intOf]; omega
              · have HST : Hid (Fo.stp l next 0 s = (l, next)) := Fo.stp_add1 HAD.out (fun h => hok ((Fo.add_iff HRL.out hnb).1 h).1)
                have HNE : Hid (Nm.err s = 409) := Nm.err_no hok
                clear hok
                obtain ⟨HL2a, HL2b⟩ : Hid (l2 = l) ∧ Hid (next2 = next) := by rw [HST.out] at HL2; exact ⟨HL2.out.1.symm, HL2.out.2.symm⟩
                obtain rfl : l = l2 := HL2a.out.symm
                obtain rfl : next = next2 := HL2b.out.symm
                obtain rfl : kv2 = m := HE3.out.lenq.trans HLM.out
                have HNN : Hid (l.length = kv2) := HLM
                have HF : Hid (HasAt w.heap.size w w3 (.slice pv kv2 cv) (.slice p kv2 q) l next (k + 1)) := ⟨HD3.out, HE3.out, HR3.out, HRT.out.1, HRT.out.2.1, HRT.out.2.2, HB3.out⟩
                clear hT
                go_wp2_with fail
                refine (rname_any s _ HSX.out).mono ?_
                rintro e w4 ⟨rfl, hw4⟩
                obtain rfl : w3 = w4 := hw4.symm
                clear hw4
                rw [HNE.out]
                obtain ⟨⟨e0, e1⟩, -⟩ := dir_of HF.out.box
                go_wp2
                go_loopw [102] (fun i wr => ∃ z : Nat, z ≤ kv2 ∧ i = .int .i64 z ∧ Hid (Below w3.heap.size w3 wr)) (fun i _ => kv2 - (intOf i).toNat)
                case atStart => exact ⟨0, Nat.zero_le _, rfl, Below.refl _ _⟩
                case round =>
                  obtain ⟨z, hz, rfl, HBZ⟩ := hrel
                  have HF3 : Hid (HasAt w.heap.size w wr (.slice pv kv2 cv) (.slice p kv2 q) l next (k + 1)) := HF.out.up HF.out.below.size HBZ.out
                  have hszz := HBZ.out.size
                  obtain ⟨⟨d0, d1⟩, -⟩ := dir_of HF3.out.box
                  clear e0 e1
                  by_cases hlz : z < kv2
                  · obtain ⟨x, hxz⟩ : ∃ x, l[z]? = some x := ⟨_, List.getElem?_eq_getElem (by rw [HNN.out]; exact hlz)⟩
                    have HFD : Hid (Fo.findErr l next x.1 = 0 ∧ Fo.found l next x.1 = x) := ⟨(Fo.found_at HF3.out.right hxz).1, (Fo.found_at HF3.out.right hxz).2.1⟩
                    obtain ⟨ao8, cap8, hve, -, hoe⟩ := HF3.out.ents.open
                    obtain ⟨be, ofe, hbe, -, hBe, hce⟩ := hoe z x hxz
                    simp only [Value.slice.injEq] at hve
                    obtain ⟨ao9, cap9, hvs, -, hos⟩ := HF3.out.have'.at.open
                    obtain ⟨bs, ofs, hbs, -, hBs, hcs⟩ := hos z x.1 (Fo.nms_at hxz)
                    simp only [Value.slice.injEq] at hvs
                    obtain rfl : pv = some ⟨be, ofe, none⟩ := hve.1.trans hbe
                    obtain rfl : p = some ⟨bs, ofs, none⟩ := hvs.1.trans hbs
                    have g0 : wr.cell? ⟨bs, ofs + z, none⟩ = some (.string x.1) := by have := hcs 0 _ rfl; rwa [show ES.sz = 1 from rfl, Nat.mul_one, Nat.add_zero] at this
                    have HCE : Hid (be < wr.heap.size ∧ ∀ k u, (EE.cells x)[k]? = some u → wr.cell? ⟨be, ofe + (z * EE.sz + k), none⟩ = some u) := ⟨hBe, hce⟩
                    have HAE : Hid (AtW EE wr (.slice (some ⟨be, ofe, none⟩) kv2 cv) l) := HF3.out.ents.wide
                    have HSM : Hid (∀ y ∈ l, y.1.size ≤ maxLen) := Fo.small_names HF3.out.right
                    have HSX : Hid (x.1.size ≤ maxLen) := HSM.out x (List.mem_of_getElem? hxz)
                    have hlz' : (z : Int) < (kv2 : Int) := by omega
                    clear hve hoe hbe hBe hce hvs hos hbs hBs hcs hxz
                    go_wp2_with fail
                    refine (find_any _ l next x.1 _ HAE.out HSM.out HSX.out).mono ?_
                    rintro e w9 ⟨rfl, hb9⟩
                    rw [HFD.out.1, HFD.out.2]
                    obtain ⟨WA, hWA⟩ : ∃ WA, WA = w9.alloc (BE x) := ⟨_, rfl⟩
                    have hb9a : Below wr.heap.size wr WA := by rw [hWA]; exact hb9.alloc hb9.size _
                    have HB9 : Hid (Below w3.heap.size w3 WA) := HBZ.out.trans (hb9a.mono hszz)
                    have j0 := cell_step d0 hb9a
                    have aa := fun j u hj => (hb9a.cell (p := ⟨be, ofe + (z * EE.sz + j), none⟩) HCE.out.1).trans (HCE.out.2 j u hj)
                    have c0 : WA.cell? ⟨be, ofe + z * 4, none⟩ = some (.string x.1) := aa 0 _ rfl
                    have c1 : WA.cell? ⟨be, ofe + z * 4 + 1, none⟩ = some (.int .i64 x.2.1) := aa 1 _ rfl
                    have c2 : WA.cell? ⟨be, ofe + z * 4 + 2, none⟩ = some (.int .i64 x.2.2.1) := aa 2 _ rfl
                    have c3 : WA.cell? ⟨be, ofe + z * 4 + 3, none⟩ = some (.int .i64 x.2.2.2) := aa 3 _ rfl
                    have hx4 := (four_of (heap_alloc_new w9 (BE x))).1
                    rw [← hWA] at hx4
                    obtain ⟨y0, y1, y2, y3⟩ := hx4
                    have heq := fun w' => eql_ent w' x
                    clear hb9 hb9a aa g0 d0 d1
                    go_wp2
                    rw [← hWA]
                    clear hWA
                    go_quiet (fail)
                    go_wp2
                    go_roundw
                    case rel => exact ⟨z + 1, by omega, by go_num, below_drewN HB9.out _⟩
                    case measure => simp [intOf]; omega
                  · obtain rfl : z = kv2 := by omega
                    go_wp2
                    go_roundw
                    case rel => exact ⟨k + 1, l, next, .slice pv z cv, p, z, q, by omega, by go_num, rfl, rfl, HF3⟩
                    case measure => simp [intOf]; omega
            · obtain ⟨kk, y, hT, hkx, -, -⟩ : ∃ (kk : Nat) (y : Ent), Fo.at' (Fo.called s) l = kk ∧ l[kk]? = some y ∧ Fo.called s y = true ∧ ∀ j z, j < kk → l[j]? = some z → Fo.called s z = false := by
                rcases Fo.at_or (Fo.called s) l with ⟨ht, -⟩ | h
                · exact absurd ht hT
                · exact h
              obtain rfl : tv = (kk : Int) := HTV.out.trans hT
              have hkm : kk < m := by have := (List.getElem?_eq_some_iff.1 hkx).1; rwa [HLM.out] at this
              have hk0 : ¬ (kk : Int) < 0 := by omega
              have hk1 : (0 : Int) ≤ (kk : Int) := by omega
              have HST : Hid (Fo.stp l next 0 s = (l, next)) := Fo.stp_add1 HAD.out (fun h => by have h5 := ((Fo.add_iff HRL.out hnb).1 h).2; rw [hT] at h5; omega)
              clear hkx
              obtain ⟨HL2a, HL2b⟩ : Hid (l2 = l) ∧ Hid (next2 = next) := by rw [HST.out] at HL2; exact ⟨HL2.out.1.symm, HL2.out.2.symm⟩
              obtain rfl : l = l2 := HL2a.out.symm
              obtain rfl : next = next2 := HL2b.out.symm
              obtain rfl : kv2 = m := HE3.out.lenq.trans HLM.out
              have HNN : Hid (l.length = kv2) := HLM
              have HF : Hid (HasAt w.heap.size w w3 (.slice pv kv2 cv) (.slice p kv2 q) l next (k + 1)) := ⟨HD3.out, HE3.out, HR3.out, HRT.out.1, HRT.out.2.1, HRT.out.2.2, HB3.out⟩
              clear hT
              obtain ⟨⟨e0, e1⟩, -⟩ := dir_of HF.out.box
              go_wp2
              go_loopw [102] (fun i wr => ∃ z : Nat, z ≤ kv2 ∧ i = .int .i64 z ∧ Hid (Below w3.heap.size w3 wr)) (fun i _ => kv2 - (intOf i).toNat)
              case atStart => exact ⟨0, Nat.zero_le _, rfl, Below.refl _ _⟩
              case round =>
                obtain ⟨z, hz, rfl, HBZ⟩ := hrel
                have HF3 : Hid (HasAt w.heap.size w wr (.slice pv kv2 cv) (.slice p kv2 q) l next (k + 1)) := HF.out.up HF.out.below.size HBZ.out
                have hszz := HBZ.out.size
                obtain ⟨⟨d0, d1⟩, -⟩ := dir_of HF3.out.box
                clear e0 e1
                by_cases hlz : z < kv2
                · obtain ⟨x, hxz⟩ : ∃ x, l[z]? = some x := ⟨_, List.getElem?_eq_getElem (by rw [HNN.out]; exact hlz)⟩
                  have HFD : Hid (Fo.findErr l next x.1 = 0 ∧ Fo.found l next x.1 = x) := ⟨(Fo.found_at HF3.out.right hxz).1, (Fo.found_at HF3.out.right hxz).2.1⟩
                  obtain ⟨ao8, cap8, hve, -, hoe⟩ := HF3.out.ents.open
                  obtain ⟨be, ofe, hbe, -, hBe, hce⟩ := hoe z x hxz
                  simp only [Value.slice.injEq] at hve
                  obtain ⟨ao9, cap9, hvs, -, hos⟩ := HF3.out.have'.at.open
                  obtain ⟨bs, ofs, hbs, -, hBs, hcs⟩ := hos z x.1 (Fo.nms_at hxz)
                  simp only [Value.slice.injEq] at hvs
                  obtain rfl : pv = some ⟨be, ofe, none⟩ := hve.1.trans hbe
                  obtain rfl : p = some ⟨bs, ofs, none⟩ := hvs.1.trans hbs
                  have g0 : wr.cell? ⟨bs, ofs + z, none⟩ = some (.string x.1) := by have := hcs 0 _ rfl; rwa [show ES.sz = 1 from rfl, Nat.mul_one, Nat.add_zero] at this
                  have HCE : Hid (be < wr.heap.size ∧ ∀ k u, (EE.cells x)[k]? = some u → wr.cell? ⟨be, ofe + (z * EE.sz + k), none⟩ = some u) := ⟨hBe, hce⟩
                  have HAE : Hid (AtW EE wr (.slice (some ⟨be, ofe, none⟩) kv2 cv) l) := HF3.out.ents.wide
                  have HSM : Hid (∀ y ∈ l, y.1.size ≤ maxLen) := Fo.small_names HF3.out.right
                  have HSX : Hid (x.1.size ≤ maxLen) := HSM.out x (List.mem_of_getElem? hxz)
                  have hlz' : (z : Int) < (kv2 : Int) := by omega
                  clear hve hoe hbe hBe hce hvs hos hbs hBs hcs hxz
                  go_wp2_with fail
                  refine (find_any _ l next x.1 _ HAE.out HSM.out HSX.out).mono ?_
                  rintro e w9 ⟨rfl, hb9⟩
                  rw [HFD.out.1, HFD.out.2]
                  obtain ⟨WA, hWA⟩ : ∃ WA, WA = w9.alloc (BE x) := ⟨_, rfl⟩
                  have hb9a : Below wr.heap.size wr WA := by rw [hWA]; exact hb9.alloc hb9.size _
                  have HB9 : Hid (Below w3.heap.size w3 WA) := HBZ.out.trans (hb9a.mono hszz)
                  have j0 := cell_step d0 hb9a
                  have aa := fun j u hj => (hb9a.cell (p := ⟨be, ofe + (z * EE.sz + j), none⟩) HCE.out.1).trans (HCE.out.2 j u hj)
                  have c0 : WA.cell? ⟨be, ofe + z * 4, none⟩ = some (.string x.1) := aa 0 _ rfl
                  have c1 : WA.cell? ⟨be, ofe + z * 4 + 1, none⟩ = some (.int .i64 x.2.1) := aa 1 _ rfl
                  have c2 : WA.cell? ⟨be, ofe + z * 4 + 2, none⟩ = some (.int .i64 x.2.2.1) := aa 2 _ rfl
                  have c3 : WA.cell? ⟨be, ofe + z * 4 + 3, none⟩ = some (.int .i64 x.2.2.2) := aa 3 _ rfl
                  have hx4 := (four_of (heap_alloc_new w9 (BE x))).1
                  rw [← hWA] at hx4
                  obtain ⟨y0, y1, y2, y3⟩ := hx4
                  have heq := fun w' => eql_ent w' x
                  clear hb9 hb9a aa g0 d0 d1
                  go_wp2
                  rw [← hWA]
                  clear hWA
                  go_quiet (fail)
                  go_wp2
                  go_roundw
                  case rel => exact ⟨z + 1, by omega, by go_num, below_drewN HB9.out _⟩
                  case measure => simp [intOf]; omega
                · obtain rfl : z = kv2 := by omega
                  go_wp2
                  go_roundw
                  case rel => exact ⟨k + 1, l, next, .slice pv z cv, p, z, q, by omega, by go_num, rfl, rfl, HF3⟩
                  case measure => simp [intOf]; omega
          by_cases w1 : what = 1
          · subst w1
            have HAD : Hid (Fo.adds 1 = true) := rfl
            by_cases hT : Fo.at' (Fo.called s) l = -1
            · obtain rfl : tv = -1 := HTV.out.trans hT
              by_cases hok : Nm.ok s
              · have HST : Hid (Fo.stp l next 1 s = (l ++ [(s, next + 1, 1, 1)], next + 1)) := Fo.stp_add0 HAD.out ((Fo.add_iff HRL.out hnb).2 ⟨hok, hT⟩)
                obtain ⟨HL2a, hnx⟩ : Hid (l2 = l ++ [(s, next + 1, 1, 1)]) ∧ next + 1 = next2 := by rw [HST.out] at HL2; exact ⟨HL2.out.1.symm, HL2.out.2⟩
                have HNE : Hid (Nm.err s = 0) := Nm.err_ok hok
                have HR4 : Hid (Row ES (w3.alloc (.cells #[.string s] 9)) (w.heap.size + 1) 9 (.slice p m q) (Fo.nms l)) := HR3.out.up ((Below.refl _ _).alloc (Nat.le_refl _) _)
                have HO4 : Hid (AtW ES (w3.alloc (.cells #[.string s] 9)) (.slice (some ⟨w3.heap.size, 0, none⟩) 1 1) [s]) := at_oneS (heap_alloc_new w3 _)
                have HE4 : Hid (At EE (fun b => (b ≠ w.heap.size ∧ some b ≠ (Value.slice p m q).ownBlock) ∧ b < w3.heap.size) (w3.alloc (.cells #[.string s] 9)) (.slice pv kv2 cv) l2) := (HE3.out.imp (fun b h1 h2 => ⟨h1, h2⟩)).up ((Below.refl _ _).alloc (Nat.le_refl _) _)
                have HB4 : Hid (Below w.heap.size w (w3.alloc (.cells #[.string s] 9))) := HB3.out.alloc HB3.out.size _
                have HD4 : Hid ((w3.alloc (.cells #[.string s] 9)).heap[w.heap.size]? = some (BD (.slice pv kv2 cv) next2)) := (Below.heap_alloc _ _ _ (Array.getElem?_eq_some_iff.1 HD3.out).1).trans HD3.out
                have hD3 : w.heap.size < w3.heap.size := (Array.getElem?_eq_some_iff.1 HD3.out).1
                have HNL : Hid ((Fo.nms l).length ≤ 200) := by show (Fo.nms l).length ≤ 200; rw [Fo.nms_len, HLM.out]; exact hm200
                obtain ⟨nn, hnn⟩ : ∃ nn, l2.length = nn := ⟨_, rfl⟩
                have HNN : Hid (l2.length = nn) := hnn
                obtain rfl : kv2 = nn := HE3.out.lenq.trans hnn
                clear hok hT hnn
                go_wp2_with fail
                refine (rname_any s _ HSX.out).mono ?_
                rintro e w4 ⟨rfl, hw4⟩
                obtain rfl : w3 = w4 := hw4.symm
                clear hw4
                rw [HNE.out]
                go_wp2_with (at_builtin; refine wpList_row _ rfl _ _ 59 rfl ES (fun _ => True) (w.heap.size + 1) 9 i0 _ 16 Try.underlying59 hi hz0 hz1 hz2 rfl _ (Fo.nms l) rfl HR4.out _ [s] rfl HO4.out (by have := HNL.out; unfold maxLen; simp only [List.length_cons, List.length_nil]; omega) (by have := HNL.out; simp only [List.length_cons, List.length_nil]; omega) (by simp; omega) ?_; intro v7 w7 hrow7 hg7 hloc7; have hg8 : World.grownBy _ w7 (Value.slice p m q).ownBlock := hg7; have HF0 : Hid (HasAt w.heap.size w w7 (.slice pv kv2 cv) v7 l2 next2 (k + 1)) := HasAt.mk ((hg8.block _ (by simp; omega) (fun e => by have := (HR4.out.lt _ e.symm).1; omega)).trans HD4.out) ((HE4.out.grown hg8 (fun g hg h => h.1.2 hg.symm)).imp (fun b h _ => ⟨h.1.1, fun e => hloc7.elim (fun h7 => h.1.2 (e.trans h7)) (fun h7 => by have h9 := h7 b e.symm; simp at h9; have := h.2; omega)⟩)) (by rw [HL2a.out]; unfold Fo.nms; rw [List.map_append]; exact hrow7) HRT.out.1 HRT.out.2.1 HRT.out.2.2 (HB4.out.grown hg8 (by simp; omega) (fun k hk => by have := (HR4.out.lt k hk).1; omega)); obtain ⟨p8, n8, c8, hv8⟩ := hrow7.slice3; subst hv8; obtain rfl : n8 = kv2 := (by rw [Row.lenq HF0.out.have', Fo.nms_len, HNN.out]); clear hrow7 hg7 hloc7 hg8; have hd8 := dir_of HF0.out.box; have e2 := hd8.1.1; have e3 := hd8.1.2; clear hd8)
                have HF : Hid (HasAt w.heap.size w w7 (.slice pv n8 cv) (.slice p8 n8 c8) l2 next2 (k + 1)) := HF0
                have hn8 : n8 ≤ 201 := by have h1 := HNN.out; have h2 := HRT.out.2.2; omega
                clear e2 e3 HF0
                go_loopw [102] (fun i wr => ∃ z : Nat, z ≤ n8 ∧ i = .int .i64 z ∧ Hid (Below w7.heap.size w7 wr)) (fun i _ => n8 - (intOf i).toNat)
                case atStart => exact ⟨0, Nat.zero_le _, rfl, Below.refl _ _⟩
                case round =>
                  obtain ⟨z, hz, rfl, HBZ⟩ := hrel
                  have HF3 : Hid (HasAt w.heap.size w wr (.slice pv n8 cv) (.slice p8 n8 c8) l2 next2 (k + 1)) := HF.out.up HF.out.below.size HBZ.out
                  have hszz := HBZ.out.size
                  obtain ⟨⟨d0, d1⟩, -⟩ := dir_of HF3.out.box
                  by_cases hlz : z < n8
                  · obtain ⟨x, hxz⟩ : ∃ x, l2[z]? = some x := ⟨_, List.getElem?_eq_getElem (by rw [HNN.out]; exact hlz)⟩
                    have HFD : Hid (Fo.findErr l2 next2 x.1 = 0 ∧ Fo.found l2 next2 x.1 = x) := ⟨(Fo.found_at HF3.out.right hxz).1, (Fo.found_at HF3.out.right hxz).2.1⟩
                    obtain ⟨ao8, cap8, hve, -, hoe⟩ := HF3.out.ents.open
                    obtain ⟨be, ofe, hbe, -, hBe, hce⟩ := hoe z x hxz
                    simp only [Value.slice.injEq] at hve
                    obtain ⟨ao9, cap9, hvs, -, hos⟩ := HF3.out.have'.at.open
                    obtain ⟨bs, ofs, hbs, -, hBs, hcs⟩ := hos z x.1 (Fo.nms_at hxz)
                    simp only [Value.slice.injEq] at hvs
                    obtain rfl : pv = some ⟨be, ofe, none⟩ := hve.1.trans hbe
                    obtain rfl : p8 = some ⟨bs, ofs, none⟩ := hvs.1.trans hbs
                    have g0 : wr.cell? ⟨bs, ofs + z, none⟩ = some (.string x.1) := by have := hcs 0 _ rfl; rwa [show ES.sz = 1 from rfl, Nat.mul_one, Nat.add_zero] at this
                    have HCE : Hid (be < wr.heap.size ∧ ∀ k u, (EE.cells x)[k]? = some u → wr.cell? ⟨be, ofe + (z * EE.sz + k), none⟩ = some u) := ⟨hBe, hce⟩
                    have HAE : Hid (AtW EE wr (.slice (some ⟨be, ofe, none⟩) n8 cv) l2) := HF3.out.ents.wide
                    have HSM : Hid (∀ y ∈ l2, y.1.size ≤ maxLen) := Fo.small_names HF3.out.right
                    have HSX : Hid (x.1.size ≤ maxLen) := HSM.out x (List.mem_of_getElem? hxz)
                    have hlz' : (z : Int) < (n8 : Int) := by omega
                    clear hve hoe hbe hBe hce hvs hos hbs hBs hcs hxz
                    go_wp2_with fail
                    refine (find_any _ l2 next2 x.1 _ HAE.out HSM.out HSX.out).mono ?_
                    rintro e w9 ⟨rfl, hb9⟩
                    rw [HFD.out.1, HFD.out.2]
                    obtain ⟨WA, hWA⟩ : ∃ WA, WA = w9.alloc (BE x) := ⟨_, rfl⟩
                    have hb9a : Below wr.heap.size wr WA := by rw [hWA]; exact hb9.alloc hb9.size _
                    have HB9 : Hid (Below w7.heap.size w7 WA) := HBZ.out.trans (hb9a.mono hszz)
                    have j0 := cell_step d0 hb9a
                    have aa := fun j u hj => (hb9a.cell (p := ⟨be, ofe + (z * EE.sz + j), none⟩) HCE.out.1).trans (HCE.out.2 j u hj)
                    have c0 : WA.cell? ⟨be, ofe + z * 4, none⟩ = some (.string x.1) := aa 0 _ rfl
                    have c1 : WA.cell? ⟨be, ofe + z * 4 + 1, none⟩ = some (.int .i64 x.2.1) := aa 1 _ rfl
                    have c2 : WA.cell? ⟨be, ofe + z * 4 + 2, none⟩ = some (.int .i64 x.2.2.1) := aa 2 _ rfl
                    have c3 : WA.cell? ⟨be, ofe + z * 4 + 3, none⟩ = some (.int .i64 x.2.2.2) := aa 3 _ rfl
                    have hx4 := (four_of (heap_alloc_new w9 (BE x))).1
                    rw [← hWA] at hx4
                    obtain ⟨y0, y1, y2, y3⟩ := hx4
                    have heq := fun w' => eql_ent w' x
                    clear hb9 hb9a aa g0 d0 d1
                    go_wp2
                    rw [← hWA]
                    clear hWA
                    go_quiet (fail)
                    go_wp2
                    go_roundw
                    case rel => exact ⟨z + 1, by omega, by go_num, below_drewN HB9.out _⟩
                    case measure => simp [intOf]; omega
                  · obtain rfl : z = n8 := by omega
                    go_wp2
                    go_roundw
                    case rel => exact ⟨k + 1, l2, next2, .slice pv z cv, p8, z, c8, by omega, by go_num, rfl, rfl, HF3⟩
                    case measure => simp [intOf]; omega
              · have HST : Hid (Fo.stp l next 1 s = (l, next)) := Fo.stp_add1 HAD.out (fun h => hok ((Fo.add_iff HRL.out hnb).1 h).1)
                have HNE : Hid (Nm.err s = 409) := Nm.err_no hok
                clear hok
                obtain ⟨HL2a, HL2b⟩ : Hid (l2 = l) ∧ Hid (next2 = next) := by rw [HST.out] at HL2; exact ⟨HL2.out.1.symm, HL2.out.2.symm⟩
                obtain rfl : l = l2 := HL2a.out.symm
                obtain rfl : next = next2 := HL2b.out.symm
                obtain rfl : kv2 = m := HE3.out.lenq.trans HLM.out
                have HNN : Hid (l.length = kv2) := HLM
                have HF : Hid (HasAt w.heap.size w w3 (.slice pv kv2 cv) (.slice p kv2 q) l next (k + 1)) := ⟨HD3.out, HE3.out, HR3.out, HRT.out.1, HRT.out.2.1, HRT.out.2.2, HB3.out⟩
                clear hT
                go_wp2_with fail
                refine (rname_any s _ HSX.out).mono ?_
                rintro e w4 ⟨rfl, hw4⟩
                obtain rfl : w3 = w4 := hw4.symm
                clear hw4
                rw [HNE.out]
                obtain ⟨⟨e0, e1⟩, -⟩ := dir_of HF.out.box
                go_wp2
                go_loopw [102] (fun i wr => ∃ z : Nat, z ≤ kv2 ∧ i = .int .i64 z ∧ Hid (Below w3.heap.size w3 wr)) (fun i _ => kv2 - (intOf i).toNat)
                case atStart => exact ⟨0, Nat.zero_le _, rfl, Below.refl _ _⟩
                case round =>
                  obtain ⟨z, hz, rfl, HBZ⟩ := hrel
                  have HF3 : Hid (HasAt w.heap.size w wr (.slice pv kv2 cv) (.slice p kv2 q) l next (k + 1)) := HF.out.up HF.out.below.size HBZ.out
                  have hszz := HBZ.out.size
                  obtain ⟨⟨d0, d1⟩, -⟩ := dir_of HF3.out.box
                  clear e0 e1
                  by_cases hlz : z < kv2
                  · obtain ⟨x, hxz⟩ : ∃ x, l[z]? = some x := ⟨_, List.getElem?_eq_getElem (by rw [HNN.out]; exact hlz)⟩
                    have HFD : Hid (Fo.findErr l next x.1 = 0 ∧ Fo.found l next x.1 = x) := ⟨(Fo.found_at HF3.out.right hxz).1, (Fo.found_at HF3.out.right hxz).2.1⟩
                    obtain ⟨ao8, cap8, hve, -, hoe⟩ := HF3.out.ents.open
                    obtain ⟨be, ofe, hbe, -, hBe, hce⟩ := hoe z x hxz
                    simp only [Value.slice.injEq] at hve
                    obtain ⟨ao9, cap9, hvs, -, hos⟩ := HF3.out.have'.at.open
                    obtain ⟨bs, ofs, hbs, -, hBs, hcs⟩ := hos z x.1 (Fo.nms_at hxz)
                    simp only [Value.slice.injEq] at hvs
                    obtain rfl : pv = some ⟨be, ofe, none⟩ := hve.1.trans hbe
                    obtain rfl : p = some ⟨bs, ofs, none⟩ := hvs.1.trans hbs
                    have g0 : wr.cell? ⟨bs, ofs + z, none⟩ = some (.string x.1) := by have := hcs 0 _ rfl; rwa [show ES.sz = 1 from rfl, Nat.mul_one, Nat.add_zero] at this
                    have HCE : Hid (be < wr.heap.size ∧ ∀ k u, (EE.cells x)[k]? = some u → wr.cell? ⟨be, ofe + (z * EE.sz + k), none⟩ = some u) := ⟨hBe, hce⟩
                    have HAE : Hid (AtW EE wr (.slice (some ⟨be, ofe, none⟩) kv2 cv) l) := HF3.out.ents.wide
                    have HSM : Hid (∀ y ∈ l, y.1.size ≤ maxLen) := Fo.small_names HF3.out.right
                    have HSX : Hid (x.1.size ≤ maxLen) := HSM.out x (List.mem_of_getElem? hxz)
                    have hlz' : (z : Int) < (kv2 : Int) := by omega
                    clear hve hoe hbe hBe hce hvs hos hbs hBs hcs hxz
                    go_wp2_with fail
                    refine (find_any _ l next x.1 _ HAE.out HSM.out HSX.out).mono ?_
                    rintro e w9 ⟨rfl, hb9⟩
                    rw [HFD.out.1, HFD.out.2]
                    obtain ⟨WA, hWA⟩ : ∃ WA, WA = w9.alloc (BE x) := ⟨_, rfl⟩
                    have hb9a : Below wr.heap.size wr WA := by rw [hWA]; exact hb9.alloc hb9.size _
                    have HB9 : Hid (Below w3.heap.size w3 WA) := HBZ.out.trans (hb9a.mono hszz)
                    have j0 := cell_step d0 hb9a
                    have aa := fun j u hj => (hb9a.cell (p := ⟨be, ofe + (z * EE.sz + j), none⟩) HCE.out.1).trans (HCE.out.2 j u hj)
                    have c0 : WA.cell? ⟨be, ofe + z * 4, none⟩ = some (.string x.1) := aa 0 _ rfl
                    have c1 : WA.cell? ⟨be, ofe + z * 4 + 1, none⟩ = some (.int .i64 x.2.1) := aa 1 _ rfl
                    have c2 : WA.cell? ⟨be, ofe + z * 4 + 2, none⟩ = some (.int .i64 x.2.2.1) := aa 2 _ rfl
                    have c3 : WA.cell? ⟨be, ofe + z * 4 + 3, none⟩ = some (.int .i64 x.2.2.2) := aa 3 _ rfl
                    have hx4 := (four_of (heap_alloc_new w9 (BE x))).1
                    rw [← hWA] at hx4
                    obtain ⟨y0, y1, y2, y3⟩ := hx4
                    have heq := fun w' => eql_ent w' x
                    clear hb9 hb9a aa g0 d0 d1
                    go_wp2
                    rw [← hWA]
                    clear hWA
                    go_quiet (fail)
                    go_wp2
                    go_roundw
                    case rel => exact ⟨z + 1, by omega, by go_num, below_drewN HB9.out _⟩
                    case measure => simp [intOf]; omega
                  · obtain rfl : z = kv2 := by omega
                    go_wp2
                    go_roundw
                    case rel => exact ⟨k + 1, l, next, .slice pv z cv, p, z, q, by omega, by go_num, rfl, rfl, HF3⟩
                    case measure => simp [intOf]; omega
            · obtain ⟨kk, y, hT, hkx, -, -⟩ : ∃ (kk : Nat) (y : Ent), Fo.at' (Fo.called s) l = kk ∧ l[kk]? = some y ∧ Fo.called s y = true ∧ ∀ j z, j < kk → l[j]? = some z → Fo.called s z = false := by
                rcases Fo.at_or (Fo.called s) l with ⟨ht, -⟩ | h
                · exact absurd ht hT
                · exact h
              obtain rfl : tv = (kk : Int) := HTV.out.trans hT
              have hkm : kk < m := by have := (List.getElem?_eq_some_iff.1 hkx).1; rwa [HLM.out] at this
              have hk0 : ¬ (kk : Int) < 0 := by omega
              have hk1 : (0 : Int) ≤ (kk : Int) := by omega
              have HST : Hid (Fo.stp l next 1 s = (l, next)) := Fo.stp_add1 HAD.out (fun h => by have h5 := ((Fo.add_iff HRL.out hnb).1 h).2; rw [hT] at h5; omega)
              clear hkx
              obtain ⟨HL2a, HL2b⟩ : Hid (l2 = l) ∧ Hid (next2 = next) := by rw [HST.out] at HL2; exact ⟨HL2.out.1.symm, HL2.out.2.symm⟩
              obtain rfl : l = l2 := HL2a.out.symm
              obtain rfl : next = next2 := HL2b.out.symm
              obtain rfl : kv2 = m := HE3.out.lenq.trans HLM.out
              have HNN : Hid (l.length = kv2) := HLM
              have HF : Hid (HasAt w.heap.size w w3 (.slice pv kv2 cv) (.slice p kv2 q) l next (k + 1)) := ⟨HD3.out, HE3.out, HR3.out, HRT.out.1, HRT.out.2.1, HRT.out.2.2, HB3.out⟩
              clear hT
              obtain ⟨⟨e0, e1⟩, -⟩ := dir_of HF.out.box
              go_wp2
              go_loopw [102] (fun i wr => ∃ z : Nat, z ≤ kv2 ∧ i = .int .i64 z ∧ Hid (Below w3.heap.size w3 wr)) (fun i _ => kv2 - (intOf i).toNat)
              case atStart => exact ⟨0, Nat.zero_le _, rfl, Below.refl _ _⟩
              case round =>
                obtain ⟨z, hz, rfl, HBZ⟩ := hrel
                have HF3 : Hid (HasAt w.heap.size w wr (.slice pv kv2 cv) (.slice p kv2 q) l next (k + 1)) := HF.out.up HF.out.below.size HBZ.out
                have hszz := HBZ.out.size
                obtain ⟨⟨d0, d1⟩, -⟩ := dir_of HF3.out.box
                clear e0 e1
                by_cases hlz : z < kv2
                · obtain ⟨x, hxz⟩ : ∃ x, l[z]? = some x := ⟨_, List.getElem?_eq_getElem (by rw [HNN.out]; exact hlz)⟩
                  have HFD : Hid (Fo.findErr l next x.1 = 0 ∧ Fo.found l next x.1 = x) := ⟨(Fo.found_at HF3.out.right hxz).1, (Fo.found_at HF3.out.right hxz).2.1⟩
                  obtain ⟨ao8, cap8, hve, -, hoe⟩ := HF3.out.ents.open
                  obtain ⟨be, ofe, hbe, -, hBe, hce⟩ := hoe z x hxz
                  simp only [Value.slice.injEq] at hve
                  obtain ⟨ao9, cap9, hvs, -, hos⟩ := HF3.out.have'.at.open
                  obtain ⟨bs, ofs, hbs, -, hBs, hcs⟩ := hos z x.1 (Fo.nms_at hxz)
                  simp only [Value.slice.injEq] at hvs
                  obtain rfl : pv = some ⟨be, ofe, none⟩ := hve.1.trans hbe
                  obtain rfl : p = some ⟨bs, ofs, none⟩ := hvs.1.trans hbs
                  have g0 : wr.cell? ⟨bs, ofs + z, none⟩ = some (.string x.1) := by have := hcs 0 _ rfl; rwa [show ES.sz = 1 from rfl, Nat.mul_one, Nat.add_zero] at this
                  have HCE : Hid (be < wr.heap.size ∧ ∀ k u, (EE.cells x)[k]? = some u → wr.cell? ⟨be, ofe + (z * EE.sz + k), none⟩ = some u) := ⟨hBe, hce⟩
                  have HAE : Hid (AtW EE wr (.slice (some ⟨be, ofe, none⟩) kv2 cv) l) := HF3.out.ents.wide
                  have HSM : Hid (∀ y ∈ l, y.1.size ≤ maxLen) := Fo.small_names HF3.out.right
                  have HSX : Hid (x.1.size ≤ maxLen) := HSM.out x (List.mem_of_getElem? hxz)
                  have hlz' : (z : Int) < (kv2 : Int) := by omega
                  clear hve hoe hbe hBe hce hvs hos hbs hBs hcs hxz
                  go_wp2_with fail
                  refine (find_any _ l next x.1 _ HAE.out HSM.out HSX.out).mono ?_
                  rintro e w9 ⟨rfl, hb9⟩
                  rw [HFD.out.1, HFD.out.2]
                  obtain ⟨WA, hWA⟩ : ∃ WA, WA = w9.alloc (BE x) := ⟨_, rfl⟩
                  have hb9a : Below wr.heap.size wr WA := by rw [hWA]; exact hb9.alloc hb9.size _
                  have HB9 : Hid (Below w3.heap.size w3 WA) := HBZ.out.trans (hb9a.mono hszz)
                  have j0 := cell_step d0 hb9a
                  have aa := fun j u hj => (hb9a.cell (p := ⟨be, ofe + (z * EE.sz + j), none⟩) HCE.out.1).trans (HCE.out.2 j u hj)
                  have c0 : WA.cell? ⟨be, ofe + z * 4, none⟩ = some (.string x.1) := aa 0 _ rfl
                  have c1 : WA.cell? ⟨be, ofe + z * 4 + 1, none⟩ = some (.int .i64 x.2.1) := aa 1 _ rfl
                  have c2 : WA.cell? ⟨be, ofe + z * 4 + 2, none⟩ = some (.int .i64 x.2.2.1) := aa 2 _ rfl
                  have c3 : WA.cell? ⟨be, ofe + z * 4 + 3, none⟩ = some (.int .i64 x.2.2.2) := aa 3 _ rfl
                  have hx4 := (four_of (heap_alloc_new w9 (BE x))).1
                  rw [← hWA] at hx4
                  obtain ⟨y0, y1, y2, y3⟩ := hx4
                  have heq := fun w' => eql_ent w' x
                  clear hb9 hb9a aa g0 d0 d1
                  go_wp2
                  rw [← hWA]
                  clear hWA
                  go_quiet (fail)
                  go_wp2
                  go_roundw
                  case rel => exact ⟨z + 1, by omega, by go_num, below_drewN HB9.out _⟩
                  case measure => simp [intOf]; omega
                · obtain rfl : z = kv2 := by omega
                  go_wp2
                  go_roundw
                  case rel => exact ⟨k + 1, l, next, .slice pv z cv, p, z, q, by omega, by go_num, rfl, rfl, HF3⟩
                  case measure => simp [intOf]; omega
          have HAD : Hid (Fo.adds what = false) := by show Fo.adds what = false; simp [Fo.adds, w0, w1]
          have w0' : (what == 0) = false := beq_eq_false_iff_ne.2 w0
          have w1' : (what == 1) = false := beq_eq_false_iff_ne.2 w1
          clear w0 w1
          by_cases hT : Fo.at' (Fo.called s) l = -1
          · obtain rfl : tv = -1 := HTV.out.trans hT
            have HST : Hid (Fo.stp l next what s = (l, next)) := Fo.stp_rem1 HAD.out (Fo.find_not hT)
            obtain ⟨HL2a, HL2b⟩ : Hid (l2 = l) ∧ Hid (next2 = next) := by rw [HST.out] at HL2; exact ⟨HL2.out.1.symm, HL2.out.2.symm⟩
            obtain rfl : l = l2 := HL2a.out.symm
            obtain rfl : next = next2 := HL2b.out.symm
            obtain rfl : kv2 = m := HE3.out.lenq.trans HLM.out
            have HNN : Hid (l.length = kv2) := HLM
            have HF : Hid (HasAt w.heap.size w w3 (.slice pv kv2 cv) (.slice p kv2 q) l next (k + 1)) := ⟨HD3.out, HE3.out, HR3.out, HRT.out.1, HRT.out.2.1, HRT.out.2.2, HB3.out⟩
            clear hT
            obtain ⟨⟨e0, e1⟩, -⟩ := dir_of HF.out.box
            go_wp2
            go_loopw [102] (fun i wr => ∃ z : Nat, z ≤ kv2 ∧ i = .int .i64 z ∧ Hid (Below w3.heap.size w3 wr)) (fun i _ => kv2 - (intOf i).toNat)
            case atStart => exact ⟨0, Nat.zero_le _, rfl, Below.refl _ _⟩
            case round =>
              obtain ⟨z, hz, rfl, HBZ⟩ := hrel
              have HF3 : Hid (HasAt w.heap.size w wr (.slice pv kv2 cv) (.slice p kv2 q) l next (k + 1)) := HF.out.up HF.out.below.size HBZ.out
              have hszz := HBZ.out.size
              obtain ⟨⟨d0, d1⟩, -⟩ := dir_of HF3.out.box
              clear e0 e1
              by_cases hlz : z < kv2
              · obtain ⟨x, hxz⟩ : ∃ x, l[z]? = some x := ⟨_, List.getElem?_eq_getElem (by rw [HNN.out]; exact hlz)⟩
                have HFD : Hid (Fo.findErr l next x.1 = 0 ∧ Fo.found l next x.1 = x) := ⟨(Fo.found_at HF3.out.right hxz).1, (Fo.found_at HF3.out.right hxz).2.1⟩
                obtain ⟨ao8, cap8, hve, -, hoe⟩ := HF3.out.ents.open
                obtain ⟨be, ofe, hbe, -, hBe, hce⟩ := hoe z x hxz
                simp only [Value.slice.injEq] at hve
                obtain ⟨ao9, cap9, hvs, -, hos⟩ := HF3.out.have'.at.open
                obtain ⟨bs, ofs, hbs, -, hBs, hcs⟩ := hos z x.1 (Fo.nms_at hxz)
                simp only [Value.slice.injEq] at hvs
                obtain rfl : pv = some ⟨be, ofe, none⟩ := hve.1.trans hbe
                obtain rfl : p = some ⟨bs, ofs, none⟩ := hvs.1.trans hbs
                have g0 : wr.cell? ⟨bs, ofs + z, none⟩ = some (.string x.1) := by have := hcs 0 _ rfl; rwa [show ES.sz = 1 from rfl, Nat.mul_one, Nat.add_zero] at this
                have HCE : Hid (be < wr.heap.size ∧ ∀ k u, (EE.cells x)[k]? = some u → wr.cell? ⟨be, ofe + (z * EE.sz + k), none⟩ = some u) := ⟨hBe, hce⟩
                have HAE : Hid (AtW EE wr (.slice (some ⟨be, ofe, none⟩) kv2 cv) l) := HF3.out.ents.wide
                have HSM : Hid (∀ y ∈ l, y.1.size ≤ maxLen) := Fo.small_names HF3.out.right
                have HSX : Hid (x.1.size ≤ maxLen) := HSM.out x (List.mem_of_getElem? hxz)
                have hlz' : (z : Int) < (kv2 : Int) := by omega
                clear hve hoe hbe hBe hce hvs hos hbs hBs hcs hxz
                go_wp2_with fail
                refine (find_any _ l next x.1 _ HAE.out HSM.out HSX.out).mono ?_
                rintro e w9 ⟨rfl, hb9⟩
                rw [HFD.out.1, HFD.out.2]
                obtain ⟨WA, hWA⟩ : ∃ WA, WA = w9.alloc (BE x) := ⟨_, rfl⟩
                have hb9a : Below wr.heap.size wr WA := by rw [hWA]; exact hb9.alloc hb9.size _
                have HB9 : Hid (Below w3.heap.size w3 WA) := HBZ.out.trans (hb9a.mono hszz)
                have j0 := cell_step d0 hb9a
                have aa := fun j u hj => (hb9a.cell (p := ⟨be, ofe + (z * EE.sz + j), none⟩) HCE.out.1).trans (HCE.out.2 j u hj)
                have c0 : WA.cell? ⟨be, ofe + z * 4, none⟩ = some (.string x.1) := aa 0 _ rfl
                have c1 : WA.cell? ⟨be, ofe + z * 4 + 1, none⟩ = some (.int .i64 x.2.1) := aa 1 _ rfl
                have c2 : WA.cell? ⟨be, ofe + z * 4 + 2, none⟩ = some (.int .i64 x.2.2.1) := aa 2 _ rfl
                have c3 : WA.cell? ⟨be, ofe + z * 4 + 3, none⟩ = some (.int .i64 x.2.2.2) := aa 3 _ rfl
                have hx4 := (four_of (heap_alloc_new w9 (BE x))).1
                rw [← hWA] at hx4
                obtain ⟨y0, y1, y2, y3⟩ := hx4
                have heq := fun w' => eql_ent w' x
                clear hb9 hb9a aa g0 d0 d1
                go_wp2
                rw [← hWA]
                clear hWA
                go_quiet (fail)
                go_wp2
                go_roundw
                case rel => exact ⟨z + 1, by omega, by go_num, below_drewN HB9.out _⟩
                case measure => simp [intOf]; omega
              · obtain rfl : z = kv2 := by omega
                go_wp2
                go_roundw
                case rel => exact ⟨k + 1, l, next, .slice pv z cv, p, z, q, by omega, by go_num, rfl, rfl, HF3⟩
                case measure => simp [intOf]; omega
          · obtain ⟨kk, y, hT, hkx, -, -⟩ : ∃ (kk : Nat) (y : Ent), Fo.at' (Fo.called s) l = kk ∧ l[kk]? = some y ∧ Fo.called s y = true ∧ ∀ j z, j < kk → l[j]? = some z → Fo.called s z = false := by
              rcases Fo.at_or (Fo.called s) l with ⟨ht, -⟩ | h
              · exact absurd ht hT
              · exact h
            obtain rfl : tv = (kk : Int) := HTV.out.trans hT
            have hkm : kk < m := by have := (List.getElem?_eq_some_iff.1 hkx).1; rwa [HLM.out] at this
            have HFH := Fo.find_has HRL.out hT
            have HST : Hid (Fo.stp l next what s = (l.eraseIdx kk, next)) := by
              have := Fo.stp_rem0 HAD.out HFH.1
              rw [HFH.2, show ((kk : Int)).toNat = kk from by omega] at this
              exact this
            obtain ⟨HL2a, HL2b⟩ : Hid (l2 = l.eraseIdx kk) ∧ Hid (next2 = next) := by rw [HST.out] at HL2; exact ⟨HL2.out.1.symm, HL2.out.2.symm⟩
            obtain rfl : next = next2 := HL2b.out.symm
            have HAT : Hid (At ES (fun _ => True) w3 (.slice p m q) (Fo.nms l)) := HR3.out.at.wide
            have hcap := HAT.out.capd (by omega)
            unfold maxLen at hcap
            obtain ⟨ao9, cap9, hvs, -, hos⟩ := HAT.out.open
            obtain ⟨bs, ofs, hbs, -, -, -⟩ := hos kk _ (Fo.nms_at hkx)
            simp only [Value.slice.injEq] at hvs
            obtain rfl : p = some ⟨bs, ofs, none⟩ := hvs.1.trans hbs
            obtain ⟨q1, c1, hs1⟩ : ∃ qq cc, sliced (some ⟨bs, ofs, none⟩) 0 kk q ES.sz = .slice qq kk cc := ⟨_, _, rfl⟩
            obtain ⟨q2, n2, c2, hs2⟩ : ∃ qq n cc, sliced (some ⟨bs, ofs, none⟩) (kk + 1) m q ES.sz = .slice qq n cc := ⟨_, _, _, rfl⟩
            have hsl1 : ∀ w', (Instr.slice 59 (.slice (some ⟨bs, ofs, none⟩) m q) none (some (.int .i64 (kk : Int))) none).run Try.prog w' = .ok (.slice q1 kk c1) w' := fun w' => by
              rw [run_slice_h (P := Try.prog) w' 59 _ m q Try.underlying59 .i64 (kk : Int) (by omega) (by omega)]
              exact congrArg (fun z => Result.ok z w') hs1
            have hsl2 : ∀ w', (Instr.slice 59 (.slice (some ⟨bs, ofs, none⟩) m q) (some (.int .i64 ((kk : Int) + 1))) none none).run Try.prog w' = .ok (.slice q2 n2 c2) w' := fun w' => by
              rw [run_slice_l (P := Try.prog) w' 59 _ m q Try.underlying59 .i64 ((kk : Int) + 1) (by omega) (by omega), show ((kk : Int) + 1).toNat = kk + 1 by omega]
              exact congrArg (fun z => Result.ok z w') hs2
            have HC1 : Hid (AtW ES w3 (.slice q1 kk c1) ((Fo.nms l).take kk)) := by
              have g1 := HAT.out.cut (lo := 0) (hi := kk) (Nat.zero_le _) (by omega)
              rw [hs1] at g1
              show AtW ES w3 (.slice q1 kk c1) ((Fo.nms l).take kk)
              simpa using g1
            have HC2 : Hid (AtW ES w3 (.slice q2 n2 c2) ((Fo.nms l).drop (kk + 1))) := by
              have g2 := HAT.out.cut (lo := kk + 1) (hi := m) (by omega) (Nat.le_refl _)
              rw [hs2, List.take_of_length_le (by rw [Fo.nms_len, HLM.out]; exact Nat.le_refl _)] at g2
              exact g2
            have HNL : Hid ((Fo.nms l).length ≤ 200) := by show (Fo.nms l).length ≤ 200; rw [Fo.nms_len, HLM.out]; exact hm200
            have HRN : Hid (Row ES w3 w3.heap.size 9 (.slice none 0 0) []) := Row.nil _ _ _ _
            have hD3 : w.heap.size < w3.heap.size := (Array.getElem?_eq_some_iff.1 HD3.out).1
            obtain ⟨nn, hnn⟩ : ∃ nn, l2.length = nn := ⟨_, rfl⟩
            have HNN : Hid (l2.length = nn) := hnn
            obtain rfl : kv2 = nn := HE3.out.lenq.trans hnn
            clear hT hkx hvs hos hbs hs1 hs2 hnn HFH hcap
            have hkm' : (kk : Int) + 1 ≤ (m : Int) := by omega
            have hk0 : ¬ (kk : Int) < 0 := by omega
            have hk1 : (0 : Int) ≤ (kk : Int) := by omega
            go_wp2_with (first
              | (at_builtin; refine wpList_row _ rfl _ _ 59 rfl ES (fun _ => True) w3.heap.size 9 i0 _ 16 Try.underlying59 hi hz0 hz1 hz2 rfl _ [] rfl HRN.out _ ((Fo.nms l).take kk) rfl HC1.out (by have := HNL.out; unfold maxLen; simp only [List.length_nil, List.length_take]; omega) (by have := HNL.out; simp only [List.length_nil, List.length_take]; omega) (Nat.le_refl _) ?_; intro v7 w7 hrow7 hg7 hloc7; have HB7 : Hid (Below w3.heap.size w3 w7) := (Below.refl _ _).grown hg7 (Nat.le_refl _) (fun k hk => by cases hk); have HR7 : Hid (Row ES w7 w3.heap.size 9 v7 ((Fo.nms l).take kk)) := (show Row ES w7 w3.heap.size 9 v7 ((Fo.nms l).take kk) from by simpa using hrow7); have HC3 : Hid (AtW ES w7 (.slice q2 n2 c2) ((Fo.nms l).drop (kk + 1))) := HC2.out.up HB7.out; have hs7 := HB7.out.size; clear hrow7 hg7 hloc7)
              | (at_builtin; refine wpList_row _ rfl _ _ 59 rfl ES (fun _ => True) w3.heap.size 9 i0 _ 16 Try.underlying59 hi hz0 hz1 hz2 rfl _ ((Fo.nms l).take kk) rfl HR7.out _ ((Fo.nms l).drop (kk + 1)) rfl HC3.out (by have := HNL.out; unfold maxLen; simp only [List.length_drop, List.length_take]; omega) (by have := HNL.out; simp only [List.length_drop, List.length_take]; omega) hs7 ?_; intro v8 w8 hrow8 hg8 hloc8; have HB8 : Hid (Below w3.heap.size w3 w8) := HB7.out.grown hg8 hs7 (fun k hk => (HR7.out.lt k hk).1); have HF0 : Hid (HasAt w.heap.size w w8 (.slice pv kv2 cv) v8 l2 next (k + 1)) := HasAt.mk ((HB8.out.block _ hD3).trans HD3.out) (((HE3.out.imp (fun b h1 h2 => (⟨h1, h2⟩ : (b ≠ w.heap.size ∧ some b ≠ (Value.slice (some ⟨bs, ofs, none⟩) m q).ownBlock) ∧ b < w3.heap.size))).up HB8.out).imp (fun b h _ => ⟨h.1.1, fun e => by have h5 := (hrow8.lt b e.symm).1; have h6 := h.2; omega⟩)) ((show Row ES w8 w3.heap.size 9 v8 (Fo.nms l2) from by rw [HL2a.out, Fo.nms_cut]; exact hrow8).weak (by omega)) HRT.out.1 HRT.out.2.1 HRT.out.2.2 (HB3.out.trans (HB8.out.mono (by omega))); obtain ⟨p8, n8, c8, hv8⟩ := hrow8.slice3; subst hv8; obtain rfl : n8 = kv2 := (by rw [Row.lenq HF0.out.have', Fo.nms_len, HNN.out]); have hd8 := dir_of HF0.out.box; have e2 := hd8.1.1; have e3 := hd8.1.2; clear hrow8 hg8 hloc8 hd8))
            have HF : Hid (HasAt w.heap.size w w8 (.slice pv n8 cv) (.slice p8 n8 c8) l2 next (k + 1)) := HF0
            have hn8 : n8 ≤ 201 := by have h1 := HNN.out; have h2 := HRT.out.2.2; omega
            clear e2 e3 HF0
            go_loopw [102] (fun i wr => ∃ z : Nat, z ≤ n8 ∧ i = .int .i64 z ∧ Hid (Below w8.heap.size w8 wr)) (fun i _ => n8 - (intOf i).toNat)
            case atStart => exact ⟨0, Nat.zero_le _, rfl, Below.refl _ _⟩
            case round =>
              obtain ⟨z, hz, rfl, HBZ⟩ := hrel
              have HF3 : Hid (HasAt w.heap.size w wr (.slice pv n8 cv) (.slice p8 n8 c8) l2 next (k + 1)) := HF.out.up HF.out.below.size HBZ.out
              have hszz := HBZ.out.size
              obtain ⟨⟨d0, d1⟩, -⟩ := dir_of HF3.out.box
              by_cases hlz : z < n8
              · obtain ⟨x, hxz⟩ : ∃ x, l2[z]? = some x := ⟨_, List.getElem?_eq_getElem (by rw [HNN.out]; exact hlz)⟩
                have HFD : Hid (Fo.findErr l2 next x.1 = 0 ∧ Fo.found l2 next x.1 = x) := ⟨(Fo.found_at HF3.out.right hxz).1, (Fo.found_at HF3.out.right hxz).2.1⟩
                obtain ⟨ao8, cap8, hve, -, hoe⟩ := HF3.out.ents.open
                obtain ⟨be, ofe, hbe, -, hBe, hce⟩ := hoe z x hxz
                simp only [Value.slice.injEq] at hve
                obtain ⟨ao9, cap9, hvs, -, hos⟩ := HF3.out.have'.at.open
                obtain ⟨bs, ofs, hbs, -, hBs, hcs⟩ := hos z x.1 (Fo.nms_at hxz)
                simp only [Value.slice.injEq] at hvs
                obtain rfl : pv = some ⟨be, ofe, none⟩ := hve.1.trans hbe
                obtain rfl : p8 = some ⟨bs, ofs, none⟩ := hvs.1.trans hbs
                have g0 : wr.cell? ⟨bs, ofs + z, none⟩ = some (.string x.1) := by have := hcs 0 _ rfl; rwa [show ES.sz = 1 from rfl, Nat.mul_one, Nat.add_zero] at this
                have HCE : Hid (be < wr.heap.size ∧ ∀ k u, (EE.cells x)[k]? = some u → wr.cell? ⟨be, ofe + (z * EE.sz + k), none⟩ = some u) := ⟨hBe, hce⟩
                have HAE : Hid (AtW EE wr (.slice (some ⟨be, ofe, none⟩) n8 cv) l2) := HF3.out.ents.wide
                have HSM : Hid (∀ y ∈ l2, y.1.size ≤ maxLen) := Fo.small_names HF3.out.right
                have HSX : Hid (x.1.size ≤ maxLen) := HSM.out x (List.mem_of_getElem? hxz)
                have hlz' : (z : Int) < (n8 : Int) := by omega
                clear hve hoe hbe hBe hce hvs hos hbs hBs hcs hxz
                go_wp2_with fail
                refine (find_any _ l2 next x.1 _ HAE.out HSM.out HSX.out).mono ?_
                rintro e w9 ⟨rfl, hb9⟩
                rw [HFD.out.1, HFD.out.2]
                obtain ⟨WA, hWA⟩ : ∃ WA, WA = w9.alloc (BE x) := ⟨_, rfl⟩
                have hb9a : Below wr.heap.size wr WA := by rw [hWA]; exact hb9.alloc hb9.size _
                have HB9 : Hid (Below w8.heap.size w8 WA) := HBZ.out.trans (hb9a.mono hszz)
                have j0 := cell_step d0 hb9a
                have aa := fun j u hj => (hb9a.cell (p := ⟨be, ofe + (z * EE.sz + j), none⟩) HCE.out.1).trans (HCE.out.2 j u hj)
                have c0 : WA.cell? ⟨be, ofe + z * 4, none⟩ = some (.string x.1) := aa 0 _ rfl
                have c1 : WA.cell? ⟨be, ofe + z * 4 + 1, none⟩ = some (.int .i64 x.2.1) := aa 1 _ rfl
                have c2 : WA.cell? ⟨be, ofe + z * 4 + 2, none⟩ = some (.int .i64 x.2.2.1) := aa 2 _ rfl
                have c3 : WA.cell? ⟨be, ofe + z * 4 + 3, none⟩ = some (.int .i64 x.2.2.2) := aa 3 _ rfl
                have hx4 := (four_of (heap_alloc_new w9 (BE x))).1
                rw [← hWA] at hx4
                obtain ⟨y0, y1, y2, y3⟩ := hx4
                have heq := fun w' => eql_ent w' x
                clear hb9 hb9a aa g0 d0 d1
                go_wp2
                rw [← hWA]
                clear hWA
                go_quiet (fail)
                go_wp2
                go_roundw
                case rel => exact ⟨z + 1, by omega, by go_num, below_drewN HB9.out _⟩
                case measure => simp [intOf]; omega
              · obtain rfl : z = n8 := by omega
                go_wp2
                go_roundw
                case rel => exact ⟨k + 1, l2, next, .slice pv z cv, p8, z, c8, by omega, by go_num, rfl, rfl, HF3⟩
                case measure => simp [intOf]; omega
    · obtain rfl : k = N := by omega
      have HB := HH.out.below
      go_wp2_with fail
      refine (two_any _).mono ?_
      rintro e w8 ⟨rfl, hb8⟩
      have HB8 : Hid (Below w.heap.size w w8) := HB.trans (hb8.mono HB.size)
      clear hb8
      go_wp2
      go_ret
      exact ⟨rfl, HB8.out⟩

theorem open_step {H : Type} {enc : TypeId × Value → H} {w : World} {n : Nat} {cs : List Value} {d : DataW H} {pl : List MemPlace} (hl : cs.length = EP.sz) (h : DataW.trod enc Try.prog w 0 (fun _ => true) true n 61 cs = some (d, pl)) : ∃ x : Int × ByteArray, cs = EP.cells x ∧ x.2.size ≤ maxLen := by
  match cs, hl with
  | [c0, c1], _ =>
    obtain ⟨z0, z1, m2, _, _, k0, k1⟩ := trod_struct2 Try.underlying61 h
    simp only [show Try.prog.cellsOf 3 = 1 from by kernel_rfl, show Try.prog.cellsOf 9 = 1 from by kernel_rfl] at k0 k1
    simp at k0 k1
    obtain ⟨a, e0, _, _⟩ := DataW.trod_int Try.underlying3 k0
    obtain ⟨s, e1, _, hs⟩ := DataW.trod_string Try.underlying9 k1
    simp only [List.cons.injEq, and_true] at e0 e1
    subst e0
    subst e1
    exact ⟨(a, s), rfl, hs⟩
theorem open_steps {H : Type} {enc : TypeId × Value → H} {w : World} {v : Value} {d : DataW H} {p : List MemPlace} (hv : ∃ a len cap, v = .slice a len cap) (h : DataW.Trod enc Try.prog w 0 (fun _ => true) true 58 v d p) : ∃ L, AtW EP w v L ∧ ∀ x ∈ L, x.2.size ≤ maxLen := by
  obtain ⟨a, len, cap, rfl⟩ := hv
  obtain ⟨fuel, hf⟩ := h
  have : Inhabited (Int × ByteArray) := ⟨(0, .empty)⟩
  obtain ⟨L, h1, h2⟩ := open_row EP Try.underlying58 (by kernel_rfl) (by decide) (Q := fun x _ => x.2.size ≤ maxLen) (fun n cs d pl hl h => open_step hl h) (by simpa [Value.cells] using hf)
  refine ⟨L, h1, fun x hx => ?_⟩
  rcases h2 with ⟨_, rfl⟩ | ⟨es, sp, _, _, hq⟩
  · cases hx
  · obtain ⟨i, hi⟩ := List.mem_iff_getElem?.1 hx
    obtain ⟨d, _, hd⟩ := hq i x hi
    exact hd

set_option maxRecDepth 100000 in
theorem folderHas_lifted (os : Os) (started : os.Started) (H : Type) (enc : TypeId × Value → H) :
    ReturnsInHanded {} Try.checked os 6 .any (Rows.folderHasSpec.pre6 enc Try.prog Try.f6 Rows.folderHasRow.domain false) (Rows.folderHasSpec.post enc Try.prog Try.f6 false true false false) := by
  refine returnsInHanded_of_change (C := Try.checked) own started (by kernel_rfl) Try.func6
    (ChangeSpec.witness6 (enc := enc) (C := Try.checked) false ⟨#[], #[.slice none 0 0], []⟩ 8 (by kernel_rfl) (by kernel_rfl) (by kernel_rfl) (by kernel_rfl)) ?_
  intro W base args ds gs before hval0 hW hcnd _
  have hval : ∀ (j : Nat) t v, Try.f6.params[j]? = some t → args[j]? = some v → Value.okWide Try.prog W .any base t v := hval0
  have hW' := hW
  obtain ⟨p, q, hA0, hV, rfl, hfz, hnd⟩ := hW
  have hA : DataW.TrodAll enc Try.prog W 0 (fun _ => true) true Try.f6.params.toList args.toList ds p := hA0
  rw [Try.params6] at hA hval
  obtain ⟨v0, d0, rfl, rfl, h0⟩ := trodAll_one hA
  obtain ⟨rfl, rfl⟩ := trodVars_none hV
  obtain ⟨L, hL, hs⟩ := open_steps (okWide_slice Try.underlying58 (hval 0 58 v0 rfl rfl)) h0
  refine (has_any v0 L W hL hs).mono fun e W' ⟨he, hg⟩ => ⟨_, he, ?_⟩
  exact Law.post laidOut (by kernel_rfl) rfl Try.underlying4 hW' rfl rfl hg

theorem folderHas_holds : Rows.FolderHasSaid :=
  OpenClaim.holds_of_wide 6 Try.f6 rfl rfl rfl rfl rfl rfl rfl ⟨rfl, rfl, rfl, rfl, rfl⟩ rfl rfl rfl rfl rfl (by kernel_rfl) Try.func6 (by kernel_rfl)
    (of_decide_eq_true (by kernel_rfl)) (by unfold Func.isWrapper; first | (rw [if_pos (by decide +kernel)]; kernel_rfl) | (rw [if_neg (by decide +kernel)]; exact ⟨rfl, rfl⟩))
    (fun os started H enc _ => folderHas_lifted os started H enc)
#print axioms folderHas_holds
end Go.Proofs.Ytlpnkcolpgodjaa
