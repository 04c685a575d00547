/-
  The texts RBe, Late, Cnt, Rea, Chk, SIns, RPa, as one.
-/
import Derived.OrdersHeld
import Derived.WalkKit
import Derived.Maps.Own
import Derived.Maps.RangeWalk
import Derived.Test.YtacghcoikekfeaaGreatM13
/- RBe -/
namespace Go.Proofs.YtacghcoikekfeaaGreat
open Go.ChangeShapes Go.WideShapes Go.ChangeAt Go.RowKit Go.Deep It
set_option maxRecDepth 100000
namespace Sp
/-- The paths below a folder, among others. -/
def below (L : List Ino) : Nat → Nat → ByteArray → List ByteArray → List ByteArray
  | 0, _, _, out => out
  | f + 1, no, path, out => (entsAt L no).foldl (fun o e => if dirAt L e.2.2.1.toNat = true then below L f e.2.2.1.toNat (way path e.1) (insT (way path e.1) o) else insT (way path e.1) o) out
def belowE (L : List Ino) (f : Nat) (path : ByteArray) (o : List ByteArray) (e : En) : List ByteArray := if dirAt L e.2.2.1.toNat = true then below L f e.2.2.1.toNat (way path e.1) (insT (way path e.1) o) else insT (way path e.1) o
theorem below_succ (L : List Ino) (f no : Nat) (path : ByteArray) (out : List ByteArray) : below L (f + 1) no path out = (entsAt L no).foldl (belowE L f path) out := rfl
theorem insT_len (s : ByteArray) : ∀ l : List ByteArray, (insT s l).length = l.length + 1
  | [] => rfl
  | x :: l => by
    unfold insT
    split
    · rfl
    · simp [insT_len s l]
theorem fold_len {α : Type} {g : List ByteArray → α → List ByteArray} (h : ∀ o e, o.length ≤ (g o e).length) : ∀ (l : List α) (o : List ByteArray), o.length ≤ (l.foldl g o).length
  | [], _ => Nat.le_refl _
  | e :: l, o => Nat.le_trans (h o e) (fold_len h l _)
theorem below_len (L : List Ino) : ∀ (f no : Nat) (path : ByteArray) (out : List ByteArray), out.length ≤ (below L f no path out).length
  | 0, _, _, _ => Nat.le_refl _
  | f + 1, no, path, out => by
    rw [below_succ]
    refine fold_len (fun o e => ?_) _ _
    unfold belowE
    split
    · have := below_len L f e.2.2.1.toNat (way path e.1) (insT (way path e.1) o)
      rw [insT_len] at this
      omega
    · rw [insT_len]
      omega
theorem belowE_len (L : List Ino) (f : Nat) (path : ByteArray) (o : List ByteArray) (e : En) : o.length + 1 ≤ (belowE L f path o e).length := by
  unfold belowE
  split
  · have := below_len L f e.2.2.1.toNat (way path e.1) (insT (way path e.1) o)
    rw [insT_len] at this
    omega
  · rw [insT_len]
    omega
/-- What is there ahead of the j-th entry. -/
def belowTo (L : List Ino) (f no : Nat) (path : ByteArray) (out : List ByteArray) (j : Nat) : List ByteArray := ((entsAt L no).take j).foldl (belowE L f path) out
theorem belowTo_succ {L : List Ino} {f no : Nat} {path : ByteArray} {out : List ByteArray} {j : Nat} {e : En} (h : (entsAt L no)[j]? = some e) : belowTo L f no path out (j + 1) = belowE L f path (belowTo L f no path out j) e := by
  unfold belowTo
  rw [List.take_add_one, h, List.foldl_append]
  rfl
theorem belowTo_all {L : List Ino} {f no : Nat} {path : ByteArray} {out : List ByteArray} {j : Nat} (h : (entsAt L no).length = j) : belowTo L f no path out j = below L (f + 1) no path out := by
  unfold belowTo
  rw [below_succ, ← h, List.take_length]
theorem belowTo_len (L : List Ino) (f no : Nat) (path : ByteArray) (out : List ByteArray) (j : Nat) : (belowTo L f no path out j).length ≤ (below L (f + 1) no path out).length := by
  unfold belowTo
  rw [below_succ]
  conv => rhs; rw [← List.take_append_drop j (entsAt L no), List.foldl_append]
  exact fold_len (fun o e => Nat.le_trans (Nat.le_succ _) (belowE_len L f path o e)) _ _
end Sp
set_option maxRecDepth 100000 in
set_option maxHeartbeats 4000000 in
theorem rbelow_any {S : Nat → Prop} (L : List Rw) (ao : Option Addr) (n cap : Nat) (hLn : L.length = n) (hn : n ≤ 1000) : ∀ (f no : Nat) (path : ByteArray) (l : List ByteArray) (v : Value) (w : World), Sp.deep (pl L) f no → path.size + 33 * f ≤ 1000 → TabAt S w (.slice ao n cap) L → AtW ETx w v l → (Sp.below (pl L) f no path l).length ≤ 100000 →
    Calls Tryz.prog 42 #[.slice ao n cap, .int .i64 no, .string path, v] w fun e w' => ∃ u, e = .returned u ∧ AtW ETx w' u (Sp.below (pl L) f no path l) ∧ Below w.heap.size w w'
  | 0, _, _, _, _, _, h, _, _, _, _ => h.elim
  | f + 1, no, path, l, v, w, hdeep, hpath, hv, hl, hb => by
    have IH : Hid (∀ (no : Nat) (path : ByteArray) (l : List ByteArray) (v : Value) (w : World), Sp.deep (pl L) f no → path.size + 33 * f ≤ 1000 → TabAt S w (.slice ao n cap) L → AtW ETx w v l → (Sp.below (pl L) f no path l).length ≤ 100000 →
      Calls Tryz.prog 42 #[.slice ao n cap, .int .i64 no, .string path, v] w fun e w' => ∃ u, e = .returned u ∧ AtW ETx w' u (Sp.below (pl L) f no path l) ∧ Below w.heap.size w w') := rbelow_any L ao n cap hLn hn f
    have HV : Hid (TabAt S w (.slice ao n cap) L) := hv
    have HN : Hid (L.length = n) := hLn
    have HDEEP : Hid (Sp.deep (pl L) (f + 1) no) := hdeep
    have HBB : Hid ((Sp.below (pl L) (f + 1) no path l).length ≤ 100000) := hb
    have hno : no < n := by have := hdeep.1; rw [List.length_map, hLn] at this; exact this
    obtain ⟨x, hx⟩ : ∃ x, L[no]? = some x := ⟨_, List.getElem?_eq_getElem (by rw [hLn]; exact hno)⟩
    obtain ⟨⟨b, off, rfl, hB, hc⟩, hen, hel, hes⟩ := tab_eight hv hx
    have HES : Hid (∀ j e, x.i.ents[j]? = some e → ∃ b' off, x.ep = some ⟨b', off, none⟩ ∧ b' < w.heap.size ∧ ent4 w b' (off + j * 4) e) := hes
    have HEA : Hid (Sp.entsAt (pl L) no = x.i.ents) := (ents_at hx).1
    obtain ⟨c0, c1, c2, c3, c4, c5, c6, c7⟩ := hc
    have hno' : (no : Int) < (n : Int) := by omega
    obtain ⟨m, hm⟩ : ∃ m, x.en = m := ⟨_, rfl⟩
    obtain ⟨ep, hep⟩ : ∃ ep, x.ep = ep := ⟨_, rfl⟩
    obtain ⟨ec, hec⟩ : ∃ ec, x.ec = ec := ⟨_, rfl⟩
    have HM : Hid (x.i.ents.length = m) := hen.symm.trans hm
    have hmb : m ≤ 3518437208883 := by rw [← HM.out]; exact hel
    have HEP : Hid (x.ep = ep) := hep
    rw [hm, hep, hec] at c6
    have HL0 : Hid (AtW ETx w v l) := hl
    obtain ⟨lo, lc, rfl, -, -⟩ := hl.open
    obtain ⟨ln, hln⟩ : ∃ ln, l.length = ln := ⟨_, rfl⟩
    rw [hln] at HL0 ⊢
    have HP : Hid (path.size + 33 * (f + 1) ≤ 1000) := hpath
    clear hdeep hb hv hx hes hen hel hm hep hec hl hLn hln c0 c1 c2 c3 c4 c5 c7 hpath
    go_enter Tryz.func42, Tryz.ntmps42
    go_wp2
    clear c6
    go_loopw [3, 17] (fun o i wr => ∃ (j : Nat) (pp : Option Addr) (jj q : Nat), j ≤ m ∧ i = .int .i64 j ∧ o = .slice pp jj q ∧ Hid (AtW ETx wr (.slice pp jj q) (Sp.belowTo (pl L) f no path l j)) ∧ Hid (Below w.heap.size w wr)) (fun _ i _ => m - (intOf i).toNat)
    case atStart => exact ⟨0, lo, ln, lc, Nat.zero_le _, rfl, rfl, HL0.out, Below.refl _ _⟩
    case round =>
      obtain ⟨j, pp, jj, q, hj, rfl, rfl, HO, HBW⟩ := hrel
      have hsz := HBW.out.size
      by_cases hjm : j < m
      · obtain ⟨⟨s, ck, e3, g⟩, hej⟩ : ∃ e, x.i.ents[j]? = some e := ⟨_, List.getElem?_eq_getElem (by rw [HM.out]; exact hjm)⟩
        have HEJ : Hid ((Sp.entsAt (pl L) no)[j]? = some (s, ck, e3, g)) := by rw [HEA.out]; exact hej
        obtain ⟨b2, off2, hep, hb2, h4⟩ := HES.out j _ hej
        obtain rfl : ep = some ⟨b2, off2, none⟩ := HEP.out.symm.trans hep
        obtain ⟨d0, d1, d2, d3⟩ := h4.below HBW.out hb2
        simp only at d0 d1 d2 d3
        obtain ⟨⟨he0, he1, hes⟩, hdd⟩ := HDEEP.out.2 _ (List.mem_of_getElem? HEJ.out)
        simp only at he0 he1 hes hdd
        obtain ⟨k, rfl⟩ : ∃ k : Nat, e3 = (k : Int) := ⟨e3.toNat, by omega⟩
        rw [List.length_map, HN.out] at he1
        have hkn : k < n := by omega
        have hkn' : (k : Int) < (n : Int) := by omega
        obtain ⟨y, hy⟩ : ∃ y, L[k]? = some y := ⟨_, List.getElem?_eq_getElem (by rw [HN.out]; exact hkn)⟩
        obtain ⟨⟨b', off', hbe, -, hy8⟩, -, -, -⟩ := tab_eight HV.out hy
        simp only [Option.some.injEq, Addr.mk.injEq, and_true] at hbe
        obtain ⟨rfl, rfl⟩ := hbe
        have HY8 : Hid (∀ V, Below w.heap.size w V → eight V b (off + k * 8) y) := fun V h => hy8.below h hB
        have HDIR : Hid (Sp.dirAt (pl L) k = (y.i.kind == 2)) := (ents_at hy).2
        have HDD : Hid (Sp.dirAt (pl L) k = true → Sp.deep (pl L) f k) := hdd
        have HSZ : Hid (s.size ≤ 32) := hes
        have hjm' : (j : Int) < (m : Int) := by omega
        have hcat : ¬ 9223372036854775807 < path.size + 1 + s.size := by have := HP.out; omega
        obtain ⟨W1, hW1⟩ : ∃ W1, W1 = wr.alloc (BEn (s, ck, (k : Int), g)) := ⟨_, rfl⟩
        have HB1 : Hid (Below w.heap.size w W1) := by show Below _ _ _; rw [hW1]; exact HBW.out.alloc hsz _
        have HX1 : Hid (W1.heap[wr.heap.size]? = some (BEn (s, ck, (k : Int), g))) := by show W1.heap[wr.heap.size]? = _; rw [hW1]; exact heap_alloc_new _ _
        have hl1 : wr.heap.size < W1.heap.size := by rw [hW1]; simp
        have HO1 : Hid (AtW ETx W1 (.slice pp jj q) (Sp.belowTo (pl L) f no path l j)) := by show AtW _ _ _ _; rw [hW1]; exact HO.out.up ((Below.refl _ _).alloc (Nat.le_refl _) _)
        have HL1 : Hid ((Sp.belowTo (pl L) f no path l (j + 1)).length ≤ 100000) := Nat.le_trans (Sp.belowTo_len _ _ _ _ _ _) HBB.out
        rw [Sp.belowTo_succ HEJ.out] at HL1
        have HL2 : Hid ((Sp.belowTo (pl L) f no path l j).length ≤ 100000) := Nat.le_trans (Sp.belowTo_len _ _ _ _ _ _) HBB.out
        clear hej hep h4 hy hy8 hdd hes he0 he1
        go_wp2_with fail
        rw [← hW1]
        have hway : Sp.way path s = path ++ (⟨#[47]⟩ : ByteArray) ++ s := rfl
        generalize hq1 : path ++ (⟨#[47]⟩ : ByteArray) = q1 at hway ⊢
        generalize q1 ++ s = pw at hway ⊢
        have HQ : Hid (Sp.way path s = pw) := hway
        clear hway hq1 d0 d1 d2 d3 hW1
        refine (rsorted_any _ _ pw _ HO1.out HL2.out).mono ?_
        rintro e w2 ⟨u2, rfl, hrow2, hb2'⟩
        have HB2 : Hid (Below w.heap.size w w2) := HB1.out.trans (hb2'.mono HB1.out.size)
        have HX2 : Hid (w2.heap[wr.heap.size]? = some (BEn (s, ck, (k : Int), g))) := (hb2'.block _ hl1).trans HX1.out
        obtain ⟨⟨g0, g1, g2, g3⟩, -⟩ := ent_of HX2.out
        obtain ⟨r0, r1, r2, r3, r4, r5, r6, r7⟩ := HY8.out _ HB2.out
        have HO2 : Hid (AtW ETx w2 u2 (Sp.insT pw (Sp.belowTo (pl L) f no path l j))) := hrow2.at.wide
        obtain ⟨p2, n2, c2, rfl⟩ := hrow2.slice3
        clear hrow2 hb2'
        by_cases hkind : y.i.kind = 2
        · rw [hkind] at r1
          have HDK : Hid (Sp.dirAt (pl L) k = true) := by show _ = _; rw [HDIR.out, hkind]; rfl
          have HST : Hid (Sp.belowE (pl L) f path (Sp.belowTo (pl L) f no path l j) (s, ck, (k : Int), g) = Sp.below (pl L) f k pw (Sp.insT pw (Sp.belowTo (pl L) f no path l j))) := by
            show _ = _
            unfold Sp.belowE
            simp only [Int.toNat_natCast]
            rw [if_pos HDK.out, HQ.out]
          have hpw : pw.size + 33 * f ≤ 1000 := by rw [← HQ.out, Sp.way_size]; have := HSZ.out; have := HP.out; omega
          clear hkind
          go_wp2_with fail
          have hq2 : path ++ (⟨#[47]⟩ : ByteArray) ++ s = pw := HQ.out
          rw [hq2]
          rw [HST.out] at HL1
          clear g0 g1 g2 g3 r0 r1 r2 r3 r4 r5 r6 r7 hq2
          refine (IH.out k pw _ _ _ (HDD.out HDK.out) hpw (HV.out.up HB2.out) HO2.out HL1.out).mono ?_
          rintro e w3 ⟨u3, rfl, ho3, hb3⟩
          have HB3 : Hid (Below w.heap.size w w3) := HB2.out.trans (hb3.mono HB2.out.size)
          have HO3 : Hid (AtW ETx w3 u3 (Sp.belowTo (pl L) f no path l (j + 1))) := by show AtW _ _ _ _; rw [Sp.belowTo_succ HEJ.out, HST.out]; exact ho3
          obtain ⟨p3, c3, rfl, -, -⟩ := ho3.open
          clear ho3 hb3
          go_wp2
          go_roundw
          case rel => exact ⟨j + 1, _, _, _, by omega, by go_num, rfl, HO3.out, HB3.out⟩
          case measure => simp [intOf]; omega
        · have HDK : Hid (Sp.dirAt (pl L) k = false) := by show _ = _; rw [HDIR.out]; exact beq_eq_false_iff_ne.2 hkind
          have HST : Hid (Sp.belowTo (pl L) f no path l (j + 1) = Sp.insT pw (Sp.belowTo (pl L) f no path l j)) := by
            show _ = _
            rw [Sp.belowTo_succ HEJ.out]
            unfold Sp.belowE
            simp only [Int.toNat_natCast]
            rw [if_neg (by rw [HDK.out]; simp), HQ.out]
          go_wp2
          go_roundw
          case rel => exact ⟨j + 1, p2, n2, c2, by omega, by go_num, rfl, by rw [HST.out]; exact HO2.out, HB2.out⟩
          case measure => simp [intOf]; omega
      · obtain rfl : m = j := by omega
        have HT : Hid (Sp.belowTo (pl L) f no path l m = Sp.below (pl L) (f + 1) no path l) := Sp.belowTo_all (by rw [HEA.out]; exact HM.out)
        go_wp2
        go_ret
        exact ⟨_, rfl, by rw [← HT.out]; exact HO.out, HBW.out⟩
end Go.Proofs.YtacghcoikekfeaaGreat
/- Late -/
namespace Go.Proofs.YtacghcoikekfeaaGreat
set_option maxRecDepth 100000
namespace Late
variable {P : Program} {ops : Array Oper} {Q : Exit → Act → World → Prop} {md : Region.Mode} {S : World → Prop} {k : Nat}

/-- Whatever order is picked from here on; and S holds as long as number k has not come up. -/
def any (P : Program) (md : Region.Mode) (ops : Array Oper) (Q : Exit → Act → World → Prop) (S : World → Prop) (k : Nat) : Nat → Array Bool → Act → World → Prop
  | 0, l, a, w => Region.ready md ops l = [] ∧ Q .normal a w
  | n + 1, l, a, w => (Region.ready md ops l = [] → Q .normal a w) ∧
      ∀ i ∈ Region.ready md ops l, wpOp P ops Q i (fun b v => (i ≠ k → S v) ∧ any P md ops Q S k n (l.setIfInBounds i true) b v) a w

theorem any_plain : ∀ (n : Nat) (l : Array Bool) (a : Act) (w : World), any P md ops Q S k n l a w → wpAny P md ops Q n l a w := by
  intro n
  induction n with
  | zero => exact fun _ _ _ h => h
  | succ n ih => exact fun l a w h => ⟨h.1, fun i hi => wpOp_mono (fun b v hb => ih _ b v hb.2) (h.2 i hi)⟩

/-- Number k waits for number i. -/
def waits (md : Region.Mode) (ops : Array Oper) (k i : Nat) : Bool := ((ops[k]?).map fun o => o.after.any fun e => Region.binds md e && e.on == i).getD false
theorem not_yet {i j : Nat} {l : Array Bool} (hw : waits md ops k i = true) (hi : i ∈ Region.ready md ops l) (hj : j ∈ Region.ready md ops l) : j ≠ k := by
  intro e
  subst e
  unfold waits at hw
  obtain ⟨_, o, ho, hall⟩ := mem_ready.1 hj
  rw [ho] at hw
  simp only [Option.map_some, Option.getD_some, Array.any_eq_true'] at hw
  obtain ⟨d, hd, hb⟩ := hw
  simp only [Bool.and_eq_true, beq_iff_eq] at hb
  have h1 := hall d hd hb.1
  have h0 := (mem_ready.1 hi).1
  rw [hb.2] at h1
  have e1 : l.getD i true = l.getD i false := by
    by_cases hlt : i < l.size
    · simp [hlt]
    · simp [Array.getElem?_eq_none (Nat.le_of_not_lt hlt)] at h1
  rw [e1, h1] at h0
  cases h0

theorem before {i : Nat} {oi : Oper} {v : Value} (hi : ops[i]? = some oi) (hsel : Region.noSelect ops = true) (hw : waits md ops k i = true)
    (hQ : ∀ c a w, Q (.panic c) (a.put oi.dst v) w → Q (.panic c) a w) :
    ∀ (n : Nat) (l : Array Bool) (a : Act) (w : World),
      (∀ j oj, ops[j]? = some oj → j ≠ i → l.getD j true = false → (∀ e ∈ oj.after, Region.binds md e = true → e.on ≠ i) → oi.apart ops oj = true) →
      i ∈ Region.ready md ops l → YieldsIf P ops S oi v a → S w → any P md ops Q S k n (l.setIfInBounds i true) (a.put oi.dst v) w → any P md ops Q S k (n + 1) l a w := by
  intro n
  induction n with
  | zero =>
    intro l a w _ hr hy hS hH
    refine ⟨fun h => absurd hr (by rw [h]; simp), fun j hj => ?_⟩
    by_cases e : j = i
    · subst e; exact hy.wpOp hi hS ⟨fun _ => hS, hH⟩
    · exact absurd (ready_mono hj e) (by rw [hH.1]; simp)
  | succ n ih =>
    intro l a w hfr hr hy hS hH
    refine ⟨fun h => absurd hr (by rw [h]; simp), fun j hj => ?_⟩
    by_cases e : j = i
    · subst e; exact hy.wpOp hi hS ⟨fun _ => hS, hH⟩
    · have hjk := not_yet hw hr hj
      obtain ⟨hun, oj, hoj, hall⟩ := mem_ready.1 hj
      have hno : ∀ d ∈ oj.after, Region.binds md d = true → d.on ≠ i := by
        intro d hd hb hdi
        have h1 := hall d hd hb
        have h0 := (mem_ready.1 hr).1
        rw [hdi] at h1
        by_cases hlt : i < l.size
        · simp [hlt] at h0 h1
          rw [h0] at h1
          cases h1
        · simp [Array.getElem?_eq_none (Nat.le_of_not_lt hlt)] at h1
      refine wpOp_mono (fun b u hb => ⟨fun _ => hb.2.1 hjk, ?_⟩) (wpOp_putIf hoj (hfr j oj hoj e hun hno) (fun cs b => Region.noSelect_spec hsel i oi cs b hi) (fun cs b => Region.noSelect_spec hsel j oj cs b hoj) hQ hy (hH.2 j (ready_mono hj e)))
      refine ih (l.setIfInBounds j true) b u (fun q oq hq hqi hqu hqn => hfr q oq hq hqi ?_ hqn) (ready_mono hr (Ne.symm e)) hb.1 (hb.2.1 hjk) ?_
      · by_cases hjq : j = q
        · subst hjq; exact hun
        · rw [getD_set_ne true hjq] at hqu; exact hqu
      · rw [Array.setIfInBounds_comm _ _ e]
        exact hb.2.2

/-- The post, of what does not panic. -/
def fine (Q : Exit → Act → World → Prop) : Exit → Act → World → Prop := fun e a w => e = .normal ∧ Q .normal a w
/-- Take number i first. -/
theorem take (i : Nat) {oi : Oper} (v : Value) {n : Nat} {l : Array Bool} {a : Act} {w : World} (hi : ops[i]? = some oi) (hsel : Region.noSelect ops = true) (hw : waits md ops k i = true)
    (hf : Region.free md ops l i = true) (hr : (Region.ready md ops l).contains i = true)
    (hg : oi.guard = none) (hy : ∀ w, S w → (execOp a.eval oi).run P w = .ok (.value v) w) (hS : S w) (h : any P md ops (fine Q) S k n (l.setIfInBounds i true) (a.put oi.dst v) w) : any P md ops (fine Q) S k (n + 1) l a w :=
  before hi hsel hw (fun _ _ _ h => by cases h.1) n l a w (Region.free_spec hi hf) (by simpa using hr) (.inl ⟨by simp [Region.wanted, hg], hy⟩) hS h
/-- One alone may come up. -/
theorem one (i : Nat) {oi : Oper} {n : Nat} {l : Array Bool} {a : Act} {w : World} (hi : ops[i]? = some oi) (hr : Region.ready md ops l = [i]) (hg : oi.guard = none)
    (h : oi.wp P a w (fun b v => (i ≠ k → S v) ∧ any P md ops (fine Q) S k n (l.setIfInBounds i true) b v) (fine Q)) : any P md ops (fine Q) S k (n + 1) l a w := by
  refine ⟨fun h0 => absurd (hr.symm.trans h0) (by simp), fun j hj => ?_⟩
  rw [hr] at hj
  obtain rfl : j = i := by simpa using hj
  unfold wpOp
  rw [hi]
  simp only [show Region.wanted oi (yielded ops a.tmps) = true by simp [Region.wanted, hg], if_true]
  exact .inl h
theorem done {l : Array Bool} {a : Act} {w : World} (hr : Region.ready md ops l = []) (h : Q .normal a w) : any P md ops (fine Q) S k 0 l a w := ⟨hr, rfl, h⟩
theorem start {id : Nat} {a : Act} {w : World} (S : World → Prop) (k : Nat) (hm : P.follows .mixedOrders = true) (h : any P .any ops (fine Q) S k ops.size (Array.replicate ops.size false) a w.drew) : (Code.region id ops true).wp P Q a w :=
  wp_mono (wp_region_any hm (any_plain _ _ _ _ h)) (fun e a w hq => by obtain ⟨rfl, h⟩ := hq; exact h)
end Late
end Go.Proofs.YtacghcoikekfeaaGreat
/- Cnt -/
namespace Go.Proofs.YtacghcoikekfeaaGreat
open Go.ChangeShapes Go.WideShapes Go.ChangeAt Go.RowKit Go.Deep It
set_option maxRecDepth 100000
theorem At.map {α : Type} {E : Enc α} {S : Nat → Prop} {w w' : World} {v : Value} {l : List α} {r : Nat} {es : Array MapEntry} {clock : Nat} (hsz : 0 < E.sz) (h : At E S w v l) (hr : w.heap[r]? = some (.map es clock)) (hg : w.grownBy w' (some r)) : At E S w' v l := by
  rcases h with h | ⟨b, off, cap, rfl, hS, hb, hp, hc, hm, hx⟩
  · exact .inl h
  · have hne : b ≠ r := by
      rintro rfl
      have hl : 0 < (E.flat l).length := by rw [E.flat_length]; exact Nat.mul_pos hp hsz
      have := hx 0 _ (List.getElem?_eq_getElem hl)
      unfold World.cell? at this
      simp only [hr] at this
      cases this
    exact .inr ⟨b, off, cap, rfl, hS, Nat.lt_of_lt_of_le hb hg.size, hp, hc, hm, fun j u hj => (cell_block (hg.block b hb (fun e => hne (by cases e; rfl)))).trans (hx j u hj)⟩
theorem HM.kept {w w' : World} {r : Nat} {M : List ((Int × Int) × Int)} (h : HM w r M) (hk : w'.heap[r]? = w.heap[r]?) : HM w' r M := by
  obtain ⟨es, clock, hr, h1⟩ := h.out
  exact ⟨es, clock, hk.trans hr, h1⟩
theorem HM.lt {w : World} {r : Nat} {M : List ((Int × Int) × Int)} (h : HM w r M) : r < w.heap.size := by
  obtain ⟨es, clock, hr, _⟩ := h.out
  exact (Array.getElem?_eq_some_iff.1 hr).1
theorem HM.new (w : World) : HM (w.alloc (.map #[] 0)) w.heap.size [] := ⟨#[], 0, World.alloc_heap_new w _, rfl, by simp, fun b hb => by simp at hb⟩
section
variable {ops : Array Oper} {rest : List Oper} {o : Oper} {a : Act} {Q : Exit → Act → World → Prop}
theorem wpList_upd (w : World) (hg : o.guard = none) (m x v : Operand) (hop : o.op = Op.mapUpdate 102 m x v) (r : Nat) (M : List ((Int × Int) × Int)) (h : Int × Int) (u : Int) (hm : a.eval m = .map (some r)) (hx : a.eval x = VHh h) (hv : a.eval v = .int .i64 u) (hM : HM w r M)
    (hK : ∀ w', HM w' r (mset M h u) → w.grownBy w' (some r) → wpList Tryz.prog ops Q rest (a.put o.dst undef) w') : wpList Tryz.prog ops Q (o :: rest) a w := by
  refine wpList_plain hg fun K' hK' => ?_
  obtain ⟨w', hrun, r1, r2⟩ := run_update hM h u
  unfold Oper.wp
  simp [execOp, hop, hm, hx, hv, hrun, Result.andThen]
  exact hK' _ _ (hK w' r1 r2)
theorem wpList_rng (w : World) (hg : o.guard = none) (m : Operand) (hop : o.op = Op.range 102 m) (r : Nat) (M : List ((Int × Int) × Int)) (hm : a.eval m = .map (some r)) (hM : HM w r M)
    (hK : ∀ es w', HR w' r w.heap.size M es #[] → w.grownBy w' none → wpList Tryz.prog ops Q rest (a.put o.dst (.pointer (some ⟨w.heap.size, 0, none⟩))) w') : wpList Tryz.prog ops Q (o :: rest) a w := by
  refine wpList_plain hg fun K' hK' => ?_
  obtain ⟨es, clock, hrun, r1⟩ := run_range hM
  unfold Oper.wp
  simp [execOp, hop, hm, hrun, Result.andThen]
  exact hK' _ _ (hK es _ r1 (World.grownBy_alloc _ _ none))
theorem wpList_nxt (w : World) (hg : o.guard = none) (it : Operand) (hop : o.op = Op.next it false) (r t : Nat) (M : List ((Int × Int) × Int)) (es : Array MapEntry) (seen : Array Nat) (hit : a.eval it = .pointer (some ⟨t, 0, none⟩)) (h : HR w r t M es seen)
    (hDone : leftM es seen = [] → wpList Tryz.prog ops Q rest (a.put o.dst (.tuple #[.bool false])) w)
    (hMore : ∀ e p w', e ∈ leftM es seen → p ∈ M → e.val = .int .i64 p.2 → HR w' r t M es (seen.push e.born) → w.grownBy w' (some t) → (Instr.entry (.pointer (some ⟨t, 0, none⟩))).run Tryz.prog w' = .ok (.tuple #[VHh p.1, .int .i64 p.2]) w' → wpList Tryz.prog ops Q rest (a.put o.dst (.tuple #[.bool true, VHh p.1, .int .i64 p.2])) w') : wpList Tryz.prog ops Q (o :: rest) a w := by
  refine wpList_plain hg fun K' hK' => ?_
  unfold Oper.wp
  rcases run_next h o.type with ⟨h0, hrun⟩ | ⟨e, he, p, hp, hk, hv, w', hrun, hr, hgr, hen⟩
  · simp [execOp, hop, hit, hrun, Result.andThen]
    exact hK' _ _ (hDone h0)
  · simp [execOp, hop, hit, hrun, Result.andThen]
    exact hK' _ _ (hMore e p w' he hp hv hr hgr hen)
end
set_option maxRecDepth 100000 in
set_option maxHeartbeats 8000000 in
theorem counted_any {S : Nat → Prop} (v : Value) (L : List Rw) (w : World) (hv : TabAt S w v L) (hright : It.right (pl L) = true) :
    Calls Tryz.prog 33 #[v] w fun e w' => e = .returned (.bool (Sp.cntB (pl L))) ∧ Below w.heap.size w w' := by
  obtain ⟨⟨hL1, hL2⟩, hroot, hall⟩ := It.right_iff.1 hright
  rw [List.length_map] at hL1 hL2
  obtain ⟨ao, cap, rfl, hm, hx⟩ := hv.open
  obtain ⟨n, hn⟩ : ∃ n, L.length = n := ⟨_, rfl⟩
  have HN : Hid (L.length = n) := hn
  have HX : Hid (∀ i x, L[i]? = some x → (∃ b off, ao = some ⟨b, off, none⟩ ∧ b < w.heap.size ∧ eight w b (off + i * 8) x) ∧ Good S w x) := hx
  have HV : Hid (TabAt S w (.slice ao L.length cap) L) := hv
  have HALL : Hid (∀ x ∈ pl L, one x = true) := hall
  obtain ⟨ans, hans⟩ : ∃ ans, Sp.cntB (pl L) = ans := ⟨_, rfl⟩
  have HANS : Hid (Sp.cntB (pl L) = ans) := hans
  rw [hans]
  obtain ⟨W0, hW0⟩ : ∃ W0, W0 = w.alloc (.map #[] 0) := ⟨_, rfl⟩
  have hg0 : w.grownBy W0 none := by rw [hW0]; exact World.grownBy_alloc _ _ none
  have HB0 : Hid (Below w.heap.size w W0) := below_none hg0 (Nat.le_refl _)
  have HM0 : Hid (HM W0 w.heap.size []) := by rw [hW0]; exact HM.new w
  obtain ⟨r, hr⟩ : ∃ r, w.heap.size = r := ⟨_, rfl⟩
  have hmm := @run_makeMap Tryz.prog
  rw [hn] at HV hL1 hL2 ⊢
  clear hv hx hright hroot hall hans hg0 hn hm
  go_enter Tryz.func33, Tryz.ntmps33
  go_wp2_with fail
  rw [← hW0]
  refine (used_any _ L _ (by have := HV.out.up HB0.out; rw [← HN.out] at this ⊢; exact this) (by rw [HN.out]; omega)).mono ?_
  rintro e w1 ⟨u, rfl, hu, hb1⟩
  have HB1 : Hid (Below w.heap.size w w1) := HB0.out.trans (hb1.mono HB0.out.size)
  have HM1 : Hid (HM w1 r []) := by rw [← hr]; exact HM0.out.kept (hb1.block _ HM0.out.lt)
  have HU1 : Hid (AtW EH w1 u (used (pl L))) := hu
  obtain ⟨ua, uc, rfl, -, -⟩ := hu.open
  obtain ⟨n1, hn1⟩ : ∃ n1, (used (pl L)).length = n1 := ⟨_, rfl⟩
  have HN1 : Hid ((used (pl L)).length = n1) := hn1
  have hn1b : n1 ≤ 24 := by have := used_length (pl L); rw [List.length_map, HN.out] at this; omega
  rw [hn1] at HU1 ⊢
  have HRW : Hid (w.heap.size = r) := hr
  clear hu hb1 hmm hW0 hn1 HM0 HB0 hr
  go_wp2
  go_loopw [16] (fun i wr => ∃ k : Nat, k ≤ n1 ∧ i = .int .i64 k ∧ Hid (HM wr r (Sp.startK (pl L) k)) ∧ Hid (Sp.Small (Sp.startK (pl L) k)) ∧ Hid (AtW EH wr (.slice ua n1 uc) (used (pl L))) ∧ Hid (Below w.heap.size w wr)) (fun i _ => n1 - (intOf i).toNat)
  case atStart => exact ⟨0, Nat.zero_le _, rfl, HM1.out, Sp.Small.nil, HU1.out, HB1.out⟩
  case round =>
    obtain ⟨k, hk, rfl, HMk, HSM, HU, HB⟩ := hrel
    have hsz := HB.out.size
    by_cases hlt : k < n1
    · obtain ⟨h, hhk⟩ : ∃ h, (used (pl L))[k]? = some h := ⟨_, List.getElem?_eq_getElem (by rw [HN1.out]; exact hlt)⟩
      have HHK : Hid ((used (pl L))[k]? = some h) := hhk
      obtain ⟨ua', uc', huv, -, huc⟩ := HU.out.open
      simp only [Value.slice.injEq] at huv
      obtain ⟨rfl, -, rfl⟩ := huv
      obtain ⟨bu, offu, rfl, -, hbu, hcu⟩ := huc k h hhk
      have d0 : wr.cell? ⟨bu, offu + k * 2, none⟩ = some (.int .i64 h.1) := hcu 0 _ rfl
      have d1 : wr.cell? ⟨bu, offu + k * 2 + 1, none⟩ = some (.int .i64 h.2) := hcu 1 _ rfl
      obtain ⟨i, y, hiy, hno, -, -⟩ := names_iff.1 (mem_used.1 (List.mem_of_getElem? hhk))
      have hiL : i < L.length := by have := (List.getElem?_eq_some_iff.1 hiy).1; rwa [List.length_map] at this
      obtain ⟨x, hxi⟩ : ∃ x, L[i]? = some x := ⟨_, List.getElem?_eq_getElem hiL⟩
      have hyx : y = x.i := by have := pl_get hxi; rw [hiy] at this; exact Option.some.inj this
      subst hyx
      have hone := HALL.out x.i (List.mem_of_getElem? hiy)
      have hlb : 0 ≤ x.i.links ∧ x.i.links ≤ 64 := by
        unfold one at hone
        simp only [Bool.and_eq_true] at hone
        rcases At.right_iff.1 hone.2.1 with ⟨_, h1, _⟩ | ⟨_, _, ⟨_, h1⟩ | ⟨_, h1⟩⟩ <;> omega
      have HLK : Hid (Sp.lkOf (pl L) h.1 = x.i.links) := by
        show ((pl L)[h.1.toNat]?.getD zeroI).links = _
        rw [hno, show ((i : Int)).toNat = i by omega, hiy]
        rfl
      obtain ⟨⟨b, off, rfl, hB, hc⟩, -⟩ := HX.out i x hxi
      obtain ⟨c0, c1, c2, c3, c4, c5, c6, c7⟩ := hc.below HB.out hB
      have hlt' : (k : Int) < (n1 : Int) := by omega
      obtain ⟨hno1, hge⟩ := h
      simp only at hno
      subst hno
      have hin : (i : Int) < (n : Int) := by rw [← HN.out]; omega
      have hbw : b < wr.heap.size := by omega
      have HMA : Hid (HM (wr.alloc (BH (i : Int) hge)) r (Sp.startK (pl L) k)) := HMk.out.kept (Below.heap_alloc _ _ _ HMk.out.lt)
      obtain ⟨⟨z0, z1⟩, -⟩ := two_of (heap_alloc_new wr (BH (i : Int) hge))
      have e2 : (wr.alloc (BH (i : Int) hge)).cell? ⟨b, off + i * 8 + 2, none⟩ = some (.int .i64 x.i.links) := (cell_older hbw _ _).trans c2
      have HS0 : Hid ((fun V : World => HM V r (Sp.startK (pl L) k) ∧ V.cell? ⟨wr.heap.size, 0, none⟩ = some (.int .i64 (i : Int)) ∧ V.cell? ⟨wr.heap.size, 1, none⟩ = some (.int .i64 hge) ∧ V.cell? ⟨b, off + i * 8 + 2, none⟩ = some (.int .i64 x.i.links)) (wr.alloc (BH (i : Int) hge)).drew) := ⟨HMA.out.kept rfl, z0, z1, e2⟩
      have HST : Hid (Sp.startK (pl L) (k + 1) = mset (Sp.startK (pl L) k) ((i : Int), hge) x.i.links) := by
        show Sp.startK (pl L) (k + 1) = _
        rw [Sp.startK_succ HHK.out, HLK.out]
      have HSM2 : Hid (Sp.Small (Sp.startK (pl L) (k + 1))) := by rw [HST.out]; exact HSM.out.set _ hlb.1 hlb.2
      clear hcu hhk hiy hxi hc hiL hone c0 c1 c3 c4 c5 c6 c7 hlb
      go_wp2_with fail
      refine Late.start (fun V => HM V r (Sp.startK (pl L) k) ∧ V.cell? ⟨wr.heap.size, 0, none⟩ = some (.int .i64 (i : Int)) ∧ V.cell? ⟨wr.heap.size, 1, none⟩ = some (.int .i64 hge) ∧ V.cell? ⟨b, off + i * 8 + 2, none⟩ = some (.int .i64 x.i.links)) 9 (by kernel_rfl) ?_
      refine Late.take 0 (.map (some r)) rfl (by kernel_rfl) (by kernel_rfl) (by kernel_rfl) (by kernel_rfl) rfl (fun V hV => by obtain ⟨hV1, hV2, hV3, hV4⟩ := hV; go_simp) HS0.out ?_
      refine Late.take 1 (VHh ((i : Int), hge)) rfl (by kernel_rfl) (by kernel_rfl) (by kernel_rfl) (by kernel_rfl) rfl (fun V hV => by obtain ⟨hV1, hV2, hV3, hV4⟩ := hV; go_simp) HS0.out ?_
      refine Late.take 2 (.slice (some ⟨b, off, none⟩) n cap) rfl (by kernel_rfl) (by kernel_rfl) (by kernel_rfl) (by kernel_rfl) rfl (fun V hV => by obtain ⟨hV1, hV2, hV3, hV4⟩ := hV; go_simp) HS0.out ?_
      refine Late.take 3 (.pointer (some ⟨wr.heap.size, 0, none⟩)) rfl (by kernel_rfl) (by kernel_rfl) (by kernel_rfl) (by kernel_rfl) rfl (fun V hV => by obtain ⟨hV1, hV2, hV3, hV4⟩ := hV; go_simp) HS0.out ?_
      refine Late.take 4 (.int .i64 (i : Int)) rfl (by kernel_rfl) (by kernel_rfl) (by kernel_rfl) (by kernel_rfl) rfl (fun V hV => by obtain ⟨hV1, hV2, hV3, hV4⟩ := hV; go_simp) HS0.out ?_
      refine Late.take 5 (.pointer (some ⟨b, off + i * 8, none⟩)) rfl (by kernel_rfl) (by kernel_rfl) (by kernel_rfl) (by kernel_rfl) rfl (fun V hV => by obtain ⟨hV1, hV2, hV3, hV4⟩ := hV; go_simp) HS0.out ?_
      refine Late.take 6 (.pointer (some ⟨b, off + i * 8 + 1, none⟩)) rfl (by kernel_rfl) (by kernel_rfl) (by kernel_rfl) (by kernel_rfl) rfl (fun V hV => by obtain ⟨hV1, hV2, hV3, hV4⟩ := hV; go_simp) HS0.out ?_
      refine Late.take 7 (.pointer (some ⟨b, off + i * 8 + 2, none⟩)) rfl (by kernel_rfl) (by kernel_rfl) (by kernel_rfl) (by kernel_rfl) rfl (fun V hV => by obtain ⟨hV1, hV2, hV3, hV4⟩ := hV; go_simp) HS0.out ?_
      refine Late.take 8 (.int .i64 x.i.links) rfl (by kernel_rfl) (by kernel_rfl) (by kernel_rfl) (by kernel_rfl) rfl (fun V hV => by obtain ⟨hV1, hV2, hV3, hV4⟩ := hV; go_simp) HS0.out ?_
      generalize haa : Act.put _ _ _ = aa
      refine Late.one 9 rfl (by kernel_rfl) rfl ?_
      have HMD : Hid (HM (wr.alloc (BH (i : Int) hge)).drew r (Sp.startK (pl L) k)) := HMA.out.kept rfl
      obtain ⟨w2, hrun, hm2, hg2⟩ := run_update HMD.out ((i : Int), hge) x.i.links
      have HM2 : Hid (HM w2 r (Sp.startK (pl L) (k + 1))) := by rw [HST.out]; exact hm2
      have hgd : wr.grownBy (wr.alloc (BH (i : Int) hge)).drew none := ⟨rfl, rfl, rfl, by simp, fun k hk _ => Below.heap_alloc wr _ k hk⟩
      have HU2 : Hid (AtW EH w2 (.slice (some ⟨bu, offu, none⟩) n1 uc) (used (pl L))) := by
        obtain ⟨es, clock, he, _⟩ := HMD.out.out
        exact (HU.out.up (below_none hgd (Nat.le_refl _))).map (by decide) he hg2
      have HB2 : Hid (Below w.heap.size w w2) := (HB.out.trans ((below_none hgd (Nat.le_refl _)).mono hsz)).grown hg2 (Nat.le_trans hsz hgd.size) (fun k e => by cases e; rw [← HRW.out]; exact Nat.le_refl _)
      have ea : aa.eval (.tmp 20) = .map (some r) ∧ aa.eval (.tmp 21) = VHh ((i : Int), hge) ∧ aa.eval (.tmp 28) = .int .i64 x.i.links := by
        rw [← haa]
        simp [Act.eval, Act.put]
      simp only [List.getElem_toArray, List.getElem_cons_succ, List.getElem_cons_zero]
      unfold Oper.wp
      clear hm2 hg2 hgd
      simp only [execOp, ea.1, ea.2.1, ea.2.2, hrun, Sem.run_bind, Sem.run_pure, Result.andThen]
      refine ⟨fun h => absurd rfl h, ?_⟩
      refine Late.done (by kernel_rfl) ?_
      clear ea
      subst haa
      simp only [Exit.inBlock, Exit.then, Act.put, List.setIfInBounds_toArray]
      clear hrun z0 z1 e2
      go_wp2
      go_roundw
      case rel => exact ⟨k + 1, by omega, by go_num, HM2.out, HSM2.out, HU2.out, HB2.out⟩
      case measure => simp [intOf]; omega
    · obtain rfl : n1 = k := by omega
      obtain ⟨x0, hx0⟩ : ∃ x, L[0]? = some x := ⟨_, List.getElem?_eq_getElem (by rw [HN.out]; omega)⟩
      obtain ⟨⟨b, off, rfl, hB, hc⟩, -⟩ := HX.out 0 x0 hx0
      obtain ⟨c0, -⟩ := hc.below HB.out hB
      rw [Nat.zero_mul, Nat.add_zero] at c0
      have HG0 : Hid (Sp.gen0 (pl L) = x0.i.gen) := by
        show ((pl L)[0]?.getD zeroI).gen = _
        rw [pl_get hx0]
        rfl
      have HST : Hid (Sp.start (pl L) = mset (Sp.startK (pl L) n1) ((0 : Int), x0.i.gen) 0) := by
        show mset (Sp.startK (pl L) (used (pl L)).length) (0, Sp.gen0 (pl L)) 0 = _
        rw [HN1.out, HG0.out]
      have HSM2 : Hid (Sp.Small (Sp.start (pl L))) := by rw [HST.out]; exact HSM.out.set _ (by decide) (by decide)
      have hn0 : (0 : Int) < (n : Int) := by omega
      clear hc hx0
      go_wp2_with (at_mapUpdate; refine wpList_upd _ rfl _ _ _ rfl r (Sp.startK (pl L) n1) ((0 : Int), x0.i.gen) 0 rfl rfl rfl HMk.out ?_; intro w2 hm2 hg2; have HM2 : Hid (HM w2 r (Sp.start (pl L))) := (by rw [HST.out]; exact hm2); have HB2 : Hid (Below w.heap.size w w2) := HB.out.grown hg2 hsz (fun k e => by cases e; rw [← HRW.out]; exact Nat.le_refl _); clear hm2 hg2)
      clear HU HB HMk c0 hsz hB
      go_loopw [38] (fun i wr => ∃ (k : Nat) (M : List ((Int × Int) × Int)), k ≤ n ∧ i = .int .i64 k ∧ Hid (HM wr r M) ∧ Hid (Sp.Small M) ∧ Hid (Sp.eat (Sp.start (pl L)) (Sp.allEnts ((pl L).take k)) = some M) ∧ Hid (Below w.heap.size w wr)) (fun i _ => n - (intOf i).toNat)
      case atStart => exact ⟨0, Sp.start (pl L), Nat.zero_le _, rfl, HM2.out, HSM2.out, rfl, HB2.out⟩
      case round =>
        obtain ⟨k, M, hk, rfl, HMM, HSS, HEAT, HB⟩ := hrel
        have hsz := HB.out.size
        by_cases hlt : k < n
        · obtain ⟨x, hxk⟩ : ∃ x, L[k]? = some x := ⟨_, List.getElem?_eq_getElem (by rw [HN.out]; exact hlt)⟩
          have hkL : k < (pl L).length := by rw [List.length_map, HN.out]; exact hlt
          obtain ⟨⟨b', off', hbo, hB, hc⟩, hgood⟩ := HX.out k x hxk
          simp only [Option.some.injEq, Addr.mk.injEq, and_true] at hbo
          obtain ⟨rfl, rfl⟩ := hbo
          obtain ⟨c0, c1, c2, c3, c4, c5, c6, c7⟩ := hc.below HB.out hB
          have HEA : Hid (Sp.entsAt (pl L) k = x.i.ents) := (ents_at hxk).1
          obtain ⟨eo, ecap, hev, hem, hents⟩ := hgood.2.1.open
          simp only [Value.slice.injEq] at hev
          obtain ⟨rfl, hen, rfl⟩ := hev
          obtain ⟨m, hm⟩ : ∃ m, x.en = m := ⟨_, rfl⟩
          have HM' : Hid (x.i.ents.length = m) := hen.symm.trans hm
          have hmm : m ≤ 9223372036854775807 := by rw [← hm, hen]; unfold maxLen at hem; omega
          have HENT : Hid (∀ j e, x.i.ents[j]? = some e → ∃ b2 off2, x.ep = some ⟨b2, off2, none⟩ ∧ b2 < w.heap.size ∧ ent4 w b2 (off2 + j * 4) e) := fun j e he => by
            obtain ⟨b2, off2, h1, -, h3, hc⟩ := hents j e he
            exact ⟨b2, off2, h1, h3, hc 0 _ rfl, hc 1 _ rfl, hc 2 _ rfl, hc 3 _ rfl⟩
          obtain ⟨ep, hep⟩ : ∃ ep, x.ep = ep := ⟨_, rfl⟩
          have HEP : Hid (x.ep = ep) := hep
          have hlt' : (k : Int) < (n : Int) := by omega
          have HSE : Hid (Sp.sofar (pl L) k m = Sp.allEnts ((pl L).take (k + 1))) := Sp.sofar_end hkL (by rw [HEA.out]; exact HM'.out)
          obtain ⟨⟨q0, q1, q2, q3, q4, q5, q6, q7⟩, -⟩ := eight_of (heap_alloc_new wr (BIx x))
          rw [hep, hm] at q6
          have HMA : Hid (HM (wr.alloc (B8 x.i.gen x.i.kind x.i.links x.i.size x.i.stamp (.slice x.rp x.rn x.rc) (.slice ep m x.ec) x.i.next)) r M) := HMM.out.kept (Below.heap_alloc _ _ _ HMM.out.lt)
          have HBA : Hid (Below w.heap.size w (wr.alloc (B8 x.i.gen x.i.kind x.i.links x.i.size x.i.stamp (.slice x.rp x.rn x.rc) (.slice ep m x.ec) x.i.next))) := HB.out.alloc hsz _
          have HE0 : Hid (Sp.eat (Sp.start (pl L)) (Sp.sofar (pl L) k 0) = some M) := by rw [Sp.sofar_zero]; exact HEAT.out
          clear hc hgood hents hem hxk hen q0 q1 q2 q3 q4 q5 q7
          go_wp2
          go_loopw [45] (fun i wr => ∃ (j : Nat) (M : List ((Int × Int) × Int)), j ≤ m ∧ i = .int .i64 j ∧ Hid (HM wr r M) ∧ Hid (Sp.Small M) ∧ Hid (Sp.eat (Sp.start (pl L)) (Sp.sofar (pl L) k j) = some M) ∧ Hid (Below w.heap.size w wr)) (fun i _ => m - (intOf i).toNat)
          case atStart => exact ⟨0, M, Nat.zero_le _, rfl, HMA.out, HSS.out, HE0.out, HBA.out⟩
          case round =>
            clear HMA HBA HE0 HMM HSS HEAT HB hsz c0 c1 c2 c3 c4 c5 c6 c7 q6
            obtain ⟨j, M, hj, rfl, HMM, HSS, HEAT, HB⟩ := hrel
            have hsz := HB.out.size
            by_cases hlj : j < m
            · obtain ⟨e, hej⟩ : ∃ e, x.i.ents[j]? = some e := ⟨_, List.getElem?_eq_getElem (by rw [HM'.out]; exact hlj)⟩
              have HEJ : Hid ((Sp.entsAt (pl L) k)[j]? = some e) := by rw [HEA.out]; exact hej
              obtain ⟨b2, off2, hep2, hl2, h4⟩ := HENT.out j e hej
              obtain rfl : ep = some ⟨b2, off2, none⟩ := HEP.out.symm.trans hep2
              have d0 := (HB.out.cell (p := ⟨b2, off2 + j * 4, none⟩) hl2).trans h4.1
              have d1 := (HB.out.cell (p := ⟨b2, off2 + j * 4 + 1, none⟩) hl2).trans h4.2.1
              have d2 := (HB.out.cell (p := ⟨b2, off2 + j * 4 + 2, none⟩) hl2).trans h4.2.2.1
              have d3 := (HB.out.cell (p := ⟨b2, off2 + j * 4 + 3, none⟩) hl2).trans h4.2.2.2
              have hlj' : (j : Int) < (m : Int) := by omega
              obtain ⟨⟨g0, g1, g2, g3⟩, -⟩ := ent_of (heap_alloc_new wr (BEn e))
              have HMA : Hid (HM (wr.alloc (BEn e)) r M) := HMM.out.kept (Below.heap_alloc _ _ _ HMM.out.lt)
              have HBA : Hid (Below w.heap.size w (wr.alloc (BEn e))) := HB.out.alloc hsz _
              obtain ⟨mv, hmv⟩ : ∃ mv, mval M e.2.2 = mv := ⟨_, rfl⟩
              have hmvb := HSS.out.val e.2.2
              rw [hmv] at hmvb
              have hlk : (Instr.lookup 102 (.map (some r)) (.agg #[.int .i64 e.2.2.1, .int .i64 e.2.2.2]) false).run Tryz.prog (wr.alloc (BEn e)) = .ok (.int .i64 mv) (wr.alloc (BEn e)) := by
                have := run_lookup HMA.out e.2.2
                rw [hmv] at this
                exact this
              clear hej h4 hep2
              by_cases hz : mv = 0
              · subst hz
                have HA : Hid (ans = false) := HANS.out.symm.trans (Sp.eat_no hkL HEJ.out HEAT.out hmv)
                clear hmv
                go_wp2
                go_ret
                rw [HA.out]
                exact ⟨rfl, HBA.out⟩
              · have hzb : (mv == 0) = false := beq_eq_false_iff_ne.2 hz
                obtain ⟨fi, hfi⟩ := Sp.find_val (M := M) (g := e.2.2) (by rw [hmv]; exact hz)
                rw [hmv] at hfi
                have HE2 : Hid (Sp.eat (Sp.start (pl L)) (Sp.sofar (pl L) k (j + 1)) = some (mset M e.2.2 (mv - 1))) := by
                  have := Sp.eat_yes HEJ.out HEAT.out (by rw [hmv]; exact hz)
                  rw [hmv] at this
                  exact this
                have HS2 : Hid (Sp.Small (mset M e.2.2 (mv - 1))) := HSS.out.set _ (by omega) (by omega)
                have HMV : Hid (mval M e.2.2 = mv) := hmv
                have HFI : Hid (mfind M e.2.2 0 = some (fi, mv)) := hfi
                clear hfi hmv hz
                go_wp2_with fail
                have hwm : IntKind.i64.wrap (mv - 1) = mv - 1 := IntWalk.i64_in _ (by omega)
                have HS7 : Hid ((fun V : World => HM V r M ∧ V.heap[r]? = (wr.alloc (BEn e)).heap[r]? ∧ V.cell? ⟨wr.heap.size, 2, none⟩ = some (.int .i64 e.2.2.1) ∧ V.cell? ⟨wr.heap.size, 3, none⟩ = some (.int .i64 e.2.2.2)) (wr.alloc (BEn e)).drew) := ⟨HMA.out.kept rfl, rfl, g2, g3⟩
                clear hlk
                have hlk : ∀ V, HM V r M → (Instr.lookup 102 (.map (some r)) (.agg #[.int .i64 e.2.2.1, .int .i64 e.2.2.2]) false).run Tryz.prog V = .ok (.int .i64 mv) V := fun V hV => by
                  have := run_lookup hV e.2.2
                  rw [HMV.out] at this
                  exact this
                obtain ⟨st, hst1, hst2⟩ := run_entry HMA.out HFI.out
                refine Late.start (fun V => HM V r M ∧ V.heap[r]? = (wr.alloc (BEn e)).heap[r]? ∧ V.cell? ⟨wr.heap.size, 2, none⟩ = some (.int .i64 e.2.2.1) ∧ V.cell? ⟨wr.heap.size, 3, none⟩ = some (.int .i64 e.2.2.2)) 7 (by kernel_rfl) ?_
                refine Late.take 0 (.map (some r)) rfl (by kernel_rfl) (by kernel_rfl) (by kernel_rfl) (by kernel_rfl) rfl (fun V hV => by obtain ⟨hV1, hV2, hV3, hV4⟩ := hV; have hl := hlk V hV1; go_simp) HS7.out ?_
                refine Late.take 1 (.pointer (some ⟨wr.heap.size, 2, none⟩)) rfl (by kernel_rfl) (by kernel_rfl) (by kernel_rfl) (by kernel_rfl) rfl (fun V hV => by obtain ⟨hV1, hV2, hV3, hV4⟩ := hV; have hl := hlk V hV1; go_simp) HS7.out ?_
                refine Late.take 2 (VHh (e.2.2.1, e.2.2.2)) rfl (by kernel_rfl) (by kernel_rfl) (by kernel_rfl) (by kernel_rfl) rfl (fun V hV => by obtain ⟨hV1, hV2, hV3, hV4⟩ := hV; have hl := hlk V hV1; go_simp) HS7.out ?_
                refine Late.take 3 (.int .i64 mv) rfl (by kernel_rfl) (by kernel_rfl) (by kernel_rfl) (by kernel_rfl) rfl (fun V hV => by obtain ⟨hV1, hV2, hV3, hV4⟩ := hV; have hl := hlk V hV1; go_simp) HS7.out ?_
                refine Late.take 4 (.int .i64 (mv - 1)) rfl (by kernel_rfl) (by kernel_rfl) (by kernel_rfl) (by kernel_rfl) rfl (fun V hV => by obtain ⟨hV1, hV2, hV3, hV4⟩ := hV; have hl := hlk V hV1; go_simp) HS7.out ?_
                generalize haa : Act.put _ _ _ = aa
                refine Late.one 5 rfl (by kernel_rfl) rfl ?_
                have ea : aa.eval (.tmp 54) = .map (some r) ∧ aa.eval (.tmp 56) = VHh e.2.2 := by
                  rw [← haa]
                  simp [Act.eval, Act.put]
                have hrun := hst1 (wr.alloc (BEn e)).drew (HMA.out.kept rfl) rfl
                simp only [List.getElem_toArray, List.getElem_cons_succ, List.getElem_cons_zero]
                unfold Oper.wp
                simp only [execOp, ea.1, ea.2, hrun, Sem.run_bind, Sem.run_pure, Result.andThen]
                refine ⟨fun _ => HS7.out, ?_⟩
                clear ea hrun
                subst haa
                refine Late.take 6 (.int .i64 (st : Int)) rfl (by kernel_rfl) (by kernel_rfl) (by kernel_rfl) (by kernel_rfl) rfl (fun V hV => by go_simp) HS7.out ?_
                generalize haa : Act.put _ _ _ = aa
                refine Late.one 7 rfl (by kernel_rfl) rfl ?_
                have ea : aa.eval (.tmp 54) = .map (some r) ∧ aa.eval (.tmp 60) = .int .i64 (st : Int) ∧ aa.eval (.tmp 58) = .int .i64 (mv - 1) := by
                  rw [← haa]
                  simp [Act.eval, Act.put]
                obtain ⟨w4, hrun, hm4, hg4⟩ := hst2 (wr.alloc (BEn e)).drew (mv - 1) rfl
                have HM4 : Hid (HM w4 r (mset M e.2.2 (mv - 1))) := hm4
                have hgd : wr.grownBy (wr.alloc (BEn e)).drew none := ⟨rfl, rfl, rfl, by simp, fun k hk _ => Below.heap_alloc wr _ k hk⟩
                have HB4 : Hid (Below w.heap.size w w4) := (HB.out.trans ((below_none hgd (Nat.le_refl _)).mono hsz)).grown hg4 (Nat.le_trans hsz hgd.size) (fun k e => by cases e; rw [← HRW.out]; exact Nat.le_refl _)
                simp only [List.getElem_toArray, List.getElem_cons_succ, List.getElem_cons_zero]
                unfold Oper.wp
                simp only [execOp, ea.1, ea.2.1, ea.2.2, hrun, Sem.run_bind, Sem.run_pure, Result.andThen]
                refine ⟨fun h => absurd rfl h, ?_⟩
                refine Late.done (by kernel_rfl) ?_
                clear ea hrun hm4 hg4 hgd hst1 hst2 hlk
                subst haa
                simp only [Exit.inBlock, Exit.then, Act.put, List.setIfInBounds_toArray]
                go_wp2
                go_roundw
                case rel => exact ⟨j + 1, mset M e.2.2 (mv - 1), by omega, by go_num, HM4.out, HS2.out, HE2.out, HB4.out⟩
                case measure => simp [intOf]; omega
            · obtain rfl : m = j := by omega
              have HE2 : Hid (Sp.eat (Sp.start (pl L)) (Sp.allEnts ((pl L).take (k + 1))) = some M) := by rw [← HSE.out]; exact HEAT.out
              go_wp2
              go_roundw
              case rel => exact ⟨k + 1, M, by omega, by go_num, HMM.out, HSS.out, HE2.out, HB.out⟩
              case measure => simp [intOf]; omega
        · obtain rfl : n = k := by omega
          have HFIN : Hid (M.all (fun p => p.2 == 0) = ans) := (Sp.eat_end (by rw [List.length_map]; exact HN.out) HEAT.out).symm.trans HANS.out
          obtain ⟨t, ht⟩ : ∃ t, wr.heap.size = t := ⟨_, rfl⟩
          go_wp2_with (at_range; refine wpList_rng _ rfl _ rfl r M rfl HMM.out ?_; intro es w3 hr3 hg3)
          have HR3 : Hid (HR w3 r t M es #[]) := by rw [← ht]; exact hr3
          have HB3 : Hid (Below w.heap.size w w3) := HB.out.trans ((below_none hg3 (Nat.le_refl _)).mono hsz)
          have HTW : Hid (w.heap.size ≤ t) := by rw [← ht]; exact hsz
          clear hr3 hg3 HB HMM
          go_frame
          rw [ht]
          clear ht hsz
          go_loopw [11] (fun _ wr => ∃ seen, Hid (HR wr r t M es seen) ∧ Hid (∀ e ∈ es.toList, seen.contains e.born = true → e.val = .int .i64 0) ∧ Hid (Below w.heap.size w wr)) (fun _ wr => match wr.heap[t]? with | some (.mapIter _ _ seen _) => (leftM es seen).length | _ => 0)
          case atStart => exact ⟨#[], HR3.out, fun e _ h => by simp at h, HB3.out⟩
          case round =>
            obtain ⟨seen, HRS, HZ, HB⟩ := hrel
            go_wp2_with (at_next; refine wpList_nxt _ rfl _ rfl r t M es seen rfl HRS.out ?_ ?_)
            · intro h0
              have HA : Hid (ans = true) := by
                show ans = true
                rw [← HFIN.out]
                refine List.all_eq_true.2 fun p hp => ?_
                have hpm : (VHh p.1, Value.int .i64 p.2) ∈ es.toList.map (fun e => (e.key, e.val)) := by rw [HRS.out.rows]; exact List.mem_map.2 ⟨p, hp, rfl⟩
                obtain ⟨e, he, hev⟩ := List.mem_map.1 hpm
                simp only [Prod.mk.injEq] at hev
                have hse : seen.contains e.born = true := by
                  cases hc : seen.contains e.born with
                  | true => rfl
                  | false =>
                    have : e ∈ leftM es seen := List.mem_filter.2 ⟨he, by rw [hc]; rfl⟩
                    rw [h0] at this
                    cases this
                have := HZ.out e he hse
                rw [hev.2] at this
                simp only [Value.int.injEq, true_and] at this
                simp [this]
              clear h0
              go_wp2
              go_ret
              rw [HA.out]
              exact ⟨rfl, HB.out⟩
            · intro e a0 a1 pv w' he hp hv hr' hgr hen
              have HRN : Hid (HR w' r t M es (seen.push e.born)) := hr'
              have HBN : Hid (Below w.heap.size w w') := HB.out.grown hgr HB.out.size (fun k e => by cases e; exact HTW.out)
              have HLE : Hid ((leftM es (seen.push e.born)).length < (leftM es seen).length) := leftM_less he
              have HEV : Hid (e.val = .int .i64 pv) := hv
              have HEB : Hid (e ∈ es.toList) := (List.mem_filter.1 he).1
              have HPM : Hid (((a0, a1), pv) ∈ M) := hp
              clear hr' hgr he hv hp
              by_cases hz : pv = 0
              · have hzb : (pv != 0) = false := by simp [hz]
                have HZ2 : Hid (∀ x ∈ es.toList, (seen.push e.born).contains x.born = true → x.val = .int .i64 0) := fun x hx hc => by
                  by_cases hb : x.born = e.born
                  · have hxe : x = e := by
                      obtain ⟨i, hi⟩ := List.mem_iff_getElem?.1 hx
                      obtain ⟨j, hj⟩ := List.mem_iff_getElem?.1 HEB.out
                      have h3 : (es.toList.map (·.born))[i]? = (es.toList.map (·.born))[j]? := by rw [List.getElem?_map, List.getElem?_map, hi, hj]; simp [hb]
                      have hij := (List.getElem?_inj (by rw [List.length_map]; exact (List.getElem?_eq_some_iff.1 hi).1) HRN.out.born).1 h3
                      subst hij
                      rw [hi] at hj
                      exact Option.some.inj hj
                    rw [hxe, HEV.out, hz]
                  · refine HZ.out x hx ?_
                    simp only [Array.contains_push] at hc
                    simpa [hb] using hc
                clear hz
                go_wp2
                go_roundw
                case rel => exact ⟨_, HRN.out, HZ2.out, HBN.out⟩
                case measure =>
                  obtain ⟨c1, -, ht1, -⟩ := HRN.out.it
                  obtain ⟨c2, -, ht2, -⟩ := HRS.out.it
                  rw [ht1, ht2]
                  exact HLE.out
              · have hzb : (pv != 0) = true := by simp [hz]
                have HA : Hid (ans = false) := by
                  show ans = false
                  rw [← HFIN.out]
                  refine List.all_eq_false.2 ⟨_, HPM.out, ?_⟩
                  simp [hz]
                clear hz
                go_wp2
                go_ret
                rw [HA.out]
                exact ⟨rfl, HBN.out⟩
end Go.Proofs.YtacghcoikekfeaaGreat
/- Rea -/
namespace Go.Proofs.YtacghcoikekfeaaGreat
open Go.ChangeShapes Go.WideShapes Go.ChangeAt Go.RowKit Go.Deep Go.Shelf It
set_option maxRecDepth 100000
attribute [local go_sem] Oper.semAt_some
/-- A store into the box alone. -/
theorem kp_set {V : World} {Bx : Nat} {t : TypeId} {u u' : Value} (h : Boxed V Bx t u) (hu' : ∀ k, u'.ownBlock ≠ some k) : Kp Bx V (V.setCell ⟨Bx, 0, none⟩ u') := by
  have hg := grownBy_setCell' V Bx u'
  have hs : (V.setCell ⟨Bx, 0, none⟩ u').cell? ⟨Bx, 0, none⟩ = some u' := (h.set u').cell
  refine ⟨hg.os, hg.tape, hg.output, hg.size, fun _ => ⟨u', hs, fun k e => absurd e (hu' k)⟩, fun k hk hn => hg.block k hk (fun e => hn (.inl (by cases e; rfl))), fun k _ hm => ?_, fun k o hk ho => (KeepsOthers.setCell V _ _).same k o hk ho⟩
  rcases hm with rfl | ⟨v, hv, he⟩
  · exact .inl rfl
  · rw [hs] at hv
    cases hv
    exact absurd he (hu' k)
set_option maxRecDepth 100000 in
set_option maxHeartbeats 4000000 in
theorem reached_any {S : Nat → Prop} (v : Value) (L : List Rw) (w : World) (hv : TabAt S w v L) (hd : Sp.deep (pl L) 24 0) (hL : L.length ≤ 24) (hlen : (Sp.walk (pl L) 24 0 ⟨#[]⟩).length ≤ 24) :
    Calls Tryz.prog 34 #[v] w fun e w' => e = .returned (.bool (((Sp.walk (pl L) 24 0 ⟨#[]⟩).length : Int) - ((pl L).countP (fun x => x.kind == 2) : Nat) == 0)) ∧ Below w.heap.size w w' := by
  obtain ⟨ao, cap, rfl, -, hx⟩ := hv.open
  obtain ⟨W0, hW0⟩ : ∃ W0, W0 = w.alloc (.cells #[.int .i64 0] 3) := ⟨_, rfl⟩
  have hg0 : w.grownBy W0 none := by rw [hW0]; exact World.grownBy_alloc _ _ none
  have hs0 : W0.heap.size = w.heap.size + 1 := by rw [hW0]; simp
  have hR : Boxed W0 w.heap.size 3 (.int .i64 0) := by rw [hW0]; exact Boxed.new w 3 _
  have hb0 : HasBox w.heap.size W0 := ⟨_, hR.cell, fun k e => by cases e⟩
  have hmine : ∀ k, k ≠ w.heap.size → ¬ Mine w.heap.size W0 k := fun k hk h => by
    rcases h with h | ⟨u, hu, he⟩
    · exact hk h
    · rw [hR.cell] at hu
      cases hu
      cases he
  obtain ⟨hseq, hg3, hs3, hk3, hb3⟩ := folders_seq (n₀ := w.heap.size) (Bx := w.heap.size) (f := 24) (no := 0) (path := ⟨#[]⟩) (V2 := W0) hd (by decide) (by omega) (by omega) (tab_up (tab_low hv) hg0) hb0 (fun b hb => hmine b (by omega))
  unfold box3 at hseq hg3 hs3 hk3 hb3
  obtain ⟨V3, hV3⟩ : ∃ V3, V3 = ((W0.alloc (.cells #[.slice ao L.length cap] 22)).alloc (.cells #[.int .i64 ((0 : Nat) : Int)] 3)).alloc (.cells #[.string ⟨#[]⟩] 9) := ⟨_, rfl⟩
  rw [← hV3] at hseq hg3 hs3 hk3 hb3
  have HSEQ : Hid (SeqOwn Tryz.prog 73 #[PT (W0.heap.size + 1), PT (W0.heap.size + 1 + 1), PT W0.heap.size] encF w.heap.size (Sp.walk (pl L) 24 0 ⟨#[]⟩) V3) := hseq
  have HB3 : Hid (Below w.heap.size w V3) := below_none (grown_trans hg0 hg3) (Nat.le_refl _)
  have HR3 : Hid (Boxed V3 w.heap.size 3 (.int .i64 0)) := hR.kept hg3 (by simp)
  have HS3 : Hid (w.heap.size < V3.heap.size) := by show w.heap.size < V3.heap.size; omega
  obtain ⟨xs, hxs⟩ : ∃ xs, Sp.walk (pl L) 24 0 ⟨#[]⟩ = xs := ⟨_, rfl⟩
  rw [hxs] at HSEQ hlen ⊢
  obtain ⟨r, hr⟩ : ∃ r, ((xs.length : Int) - ((pl L).countP (fun x => x.kind == 2) : Nat) == 0) = r := ⟨_, rfl⟩
  rw [hr]
  have HRV : Hid (((xs.length : Int) - ((pl L).countP (fun x => x.kind == 2) : Nat) == 0) = r) := hr
  have HX : Hid (∀ i x, L[i]? = some x → (∃ b off, ao = some ⟨b, off, none⟩ ∧ b < w.heap.size ∧ eight w b (off + i * 8) x) ∧ Good S w x) := hx
  obtain ⟨n, hn⟩ : ∃ n, L.length = n := ⟨_, rfl⟩
  have HN : Hid (L.length = n) := hn
  rw [hn, show ((0 : Nat) : Int) = 0 from rfl] at hV3
  rw [hn] at hL ⊢
  clear hv hd hseq hg3 hk3 hR hb0 hmine hg0 hxs hs0 hs3 hr hx hn
  refine (callsIn_wide (n := 9)).1 ?_
  refine callsIn_of_wp_marks Tryz.func34 rfl trivial ?_
  simp only [Tryz.ntmps34, List.size_toArray, List.length_cons, List.length_nil, Nat.reduceAdd, Nat.reduceSub, Array.replicate_succ, Array.replicate_zero, List.push_toArray, List.append_toArray, List.nil_append, List.cons_append]
  gi_wp2
  rw [← hW0]
  refine ⟨trivial, ?_⟩
  refine CallsIn.mono (callsIn_wide.2 (folders_any _ _ _ _ ⟨_, _, _, rfl⟩)) ?_
  rintro e' w' ⟨rfl, rfl⟩
  rw [← hV3]
  clear hV3 hW0
  gi_wp2
  refine range_law (gf := 73) (lb := #[PT (W0.heap.size + 1), PT (W0.heap.size + 1 + 1), PT W0.heap.size]) (encs := encF) (Bx := w.heap.size) (xs := xs) rfl (enters_of Tryz.func73 (by kernel_rfl) rfl) hb3 HSEQ.out (fun _ => rfl)
    (fun pre V => Boxed V w.heap.size 3 (.int .i64 (pre.length : Int)) ∧ Kp w.heap.size V3 V ∧ Below w.heap.size w V) (fun _ _ => False)
    (fun t A B row hs hg hr => ⟨(boxed_own w.heap.size 3 (fun t : List (Nat × ByteArray) => .int .i64 (t.length : Int))).from _ t A B row hs.1 hg hr, kp_own (β := Unit) hb3 (Nat.le_refl _) () A B row hs.2.1 hg hr, ownFrom_below (β := Unit) (Nat.le_refl _) (Nat.le_of_lt HS3.out) () A B row hs.2.2 hg hr⟩)
    (fun t A B row hs hg hr => hs)
    ⟨HR3.out, Kp.refl _ _, HB3.out⟩
    (fun z => { tmps := #[.slice ao n cap, undef, .bool false, PT w.heap.size, undef, undef, .slice ao n cap, .func (.func 73) #[] #[PT (W0.heap.size + 1), PT (W0.heap.size + 1 + 1), PT W0.heap.size], .int .i64 (z.1 : Int), .string z.2, undef, undef, undef, undef, undef, undef, undef, undef, undef, undef, undef, undef, undef, undef, undef], defers := [] }) ?assign ?body ?done ?stop
  case assign =>
    intro l' m' z V4 K hK
    unfold encF
    gi_wp2
    simp
    exact hK
  case body =>
    rintro l' m' pre z V4 hl' hpz ⟨hR4, hK4, hB4⟩
    have hpl : pre.length < 24 := by
      have := hpz.length_le
      simp only [List.length_append, List.length_cons, List.length_nil] at this
      omega
    have cr := hR4.cell
    have fr := hR4.frozen
    have HR4 : Hid (Boxed V4 w.heap.size 3 (.int .i64 (pre.length : Int))) := hR4
    have HK4 : Hid (Kp w.heap.size V3 V4) := hK4
    have HB4 : Hid (Below w.heap.size w V4) := hB4
    have HLN : Hid ((pre ++ [z]).length = pre.length + 1) := by show (pre ++ [z]).length = pre.length + 1; simp
    obtain ⟨pl', hpl'⟩ : ∃ k, pre.length = k := ⟨_, rfl⟩
    rw [hpl'] at cr hpl
    have HPL : Hid (pre.length = pl') := hpl'
    clear hR4 hK4 hB4 hpz hpl'
    gi_wp2
    have hks : Kp w.heap.size V4 (V4.setCell ⟨w.heap.size, 0, none⟩ (.int .i64 ((pl' : Int) + 1))) := kp_set HR4.out (by intro k e; cases e)
    refine ⟨hks, ?_, HK4.out.trans hks, HB4.out.setCell (p := ⟨w.heap.size, 0, none⟩) (Nat.le_refl _) _⟩
    rw [HLN.out, HPL.out]
    exact HR4.out.set _
  case done =>
    rintro D V5 hD ⟨hR5, hK5, hB5⟩ hdf
    have HD5 : Hid (V5.heap[D]? = some (.deferred (some [])) ∧ w.heap.size < D) := ⟨hdf, Nat.lt_of_lt_of_le HS3.out hD⟩
    have HB5 : Hid (Below w.heap.size w V5) := hB5
    have HR5 : Hid (Boxed V5 w.heap.size 3 (.int .i64 (xs.length : Int))) := hR5
    clear hR5 hK5 hB5 hdf hD
    gi_wp2
    gi_loopw [14] (fun i wr => ∃ k : Nat, k ≤ n ∧ i = .int .i64 k ∧ Hid (Boxed wr w.heap.size 3 (.int .i64 ((xs.length : Int) - ((pl (L.take k)).countP (fun x => x.kind == 2) : Nat)))) ∧ Hid (Below w.heap.size w wr) ∧ Hid (wr.heap[D]? = some (.deferred (some [])))) (fun i _ => n - (intOf i).toNat)
    case atStart => exact ⟨0, Nat.zero_le _, rfl, (show Boxed V5 w.heap.size 3 (.int .i64 ((xs.length : Int) - ((pl (L.take 0)).countP (fun x => x.kind == 2) : Nat))) from by simpa using HR5.out), HB5.out, HD5.out.1⟩
    case round =>
      obtain ⟨k, hk, rfl, HRB, HB, HDF⟩ := hrel
      have hsz := HB.out.size
      have cr := HRB.out.cell
      have fr := HRB.out.frozen
      have hrl := HRB.out.lt
      have HCB : Hid ((pl (L.take k)).countP (fun x => x.kind == 2) ≤ 24) := by
        show (pl (L.take k)).countP (fun x => x.kind == 2) ≤ 24
        refine Nat.le_trans List.countP_le_length ?_
        simp only [List.length_map, List.length_take]
        omega
      obtain ⟨q, hq⟩ : ∃ q : Int, (xs.length : Int) - ((pl (L.take k)).countP (fun x => x.kind == 2) : Nat) = q := ⟨_, rfl⟩
      have hqb : -24 ≤ q ∧ q ≤ 24 := by have := HCB.out; omega
      rw [hq] at cr HRB
      have HQ : Hid ((xs.length : Int) - ((pl (L.take k)).countP (fun x => x.kind == 2) : Nat) = q) := hq
      clear hq
      by_cases hlt : k < n
      · obtain ⟨x, hxk⟩ : ∃ x, L[k]? = some x := ⟨_, List.getElem?_eq_getElem (by rw [HN.out]; exact hlt)⟩
        obtain ⟨⟨b, off, rfl, hB, hc⟩, -⟩ := HX.out k x hxk
        obtain ⟨c0, c1, c2, c3, c4, c5, c6, c7⟩ := hc.below HB.out hB
        have hlt' : (k : Int) < (n : Int) := by omega
        have HSU : Hid ((pl (L.take (k + 1))).countP (fun x => x.kind == 2) = (pl (L.take k)).countP (fun x => x.kind == 2) + if x.i.kind == 2 then 1 else 0) := by
          show (pl (L.take (k + 1))).countP (fun x => x.kind == 2) = _
          rw [List.take_add_one, hxk]
          simp [pl, List.countP_append, List.countP_cons]
        obtain ⟨V2, hV2⟩ : ∃ V2, V2 = (wr.alloc (BIx x)).alloc (BIx x) := ⟨_, rfl⟩
        have hg2 : wr.grownBy V2 none := by rw [hV2]; exact grown_trans (World.grownBy_alloc _ _ none) (World.grownBy_alloc _ _ none)
        have HR2 : Hid (Boxed V2 w.heap.size 3 (.int .i64 q)) := HRB.out.kept hg2 (by simp)
        have HB2 : Hid (Below w.heap.size w V2) := HB.out.trans ((below_none hg2 (Nat.le_refl _)).mono hsz)
        have HD2 : Hid (V2.heap[D]? = some (.deferred (some []))) := (hg2.block D (Array.getElem?_eq_some_iff.1 HDF.out).1 (by simp)).trans HDF.out
        clear hc hxk cr fr hg2
        by_cases hkd : x.i.kind = 2
        · have hkb : (x.i.kind == 2) = true := by simp [hkd]
          have HS2 : Hid (((xs.length : Int) - ((pl (L.take (k + 1))).countP (fun x => x.kind == 2) : Nat)) = q - 1) := by
            show (xs.length : Int) - ((pl (L.take (k + 1))).countP (fun x => x.kind == 2) : Nat) = q - 1
            have := HSU.out
            rw [hkb] at this
            rw [this, ← HQ.out]
            simp
            omega
          clear hkd
          have cr := HR2.out.cell
          have fr := HR2.out.frozen
          gi_wp2
          refine ⟨trivial, ?_⟩
          refine CallsIn.mono (callsIn_wide.2 (isDir_any x _)) ?_
          rintro e' w' ⟨rfl, rfl⟩
          rw [← hV2, hkb]
          clear hV2
          gi_wp2
          go_roundw
          case rel => exact ⟨k + 1, by omega, by go_num, by rw [HS2.out]; exact HR2.out.set _, HB2.out.setCell (p := ⟨w.heap.size, 0, none⟩) (Nat.le_refl _) _, (KeepsOthers.setCell V2 _ _).same D _ HD2.out rfl⟩
          case measure => simp [intOf]; omega
        · have hkb : (x.i.kind == 2) = false := beq_eq_false_iff_ne.2 hkd
          have HS2 : Hid (((xs.length : Int) - ((pl (L.take (k + 1))).countP (fun x => x.kind == 2) : Nat)) = q) := by
            show (xs.length : Int) - ((pl (L.take (k + 1))).countP (fun x => x.kind == 2) : Nat) = q
            have := HSU.out
            rw [hkb] at this
            rw [this, ← HQ.out]
            simp
          clear hkd
          gi_wp2
          refine ⟨trivial, ?_⟩
          refine CallsIn.mono (callsIn_wide.2 (isDir_any x _)) ?_
          rintro e' w' ⟨rfl, rfl⟩
          rw [← hV2, hkb]
          clear hV2
          gi_wp2
          go_roundw
          case rel => exact ⟨k + 1, by omega, by go_num, by rw [HS2.out]; exact HR2.out, HB2.out, HD2.out⟩
          case measure => simp [intOf]; omega
      · obtain rfl : n = k := by omega
        have HQ2 : Hid ((q == 0) = r) := by
          show (q == 0) = r
          rw [← HQ.out, List.take_of_length_le (by rw [HN.out]; exact Nat.le_refl _)]
          exact HRV.out
        gi_wp2
        refine ⟨by simp, .inl ⟨_, _, rfl, run_takeDeferred HDF.out, ?_⟩⟩
        refine ⟨_, results_tmp rfl _ _ _, ?_, ?_⟩
        · rw [← HQ2.out]
          rfl
        · exact HB.out.grown (grownBy_putObj' _ _ _) hsz (fun k e => by cases e; have := HD5.out.2; omega)
  case stop =>
    rintro D pre V5 hD hpre h hdf
    exact h.elim
end Go.Proofs.YtacghcoikekfeaaGreat
/- Chk -/
namespace Go.Proofs.YtacghcoikekfeaaGreat
open Go.ChangeShapes Go.WideShapes Go.ChangeAt Go.RowKit Go.Deep It
set_option maxRecDepth 100000
theorem checkErr_or (L : List Ino) : (It.checkErr L = 0 ∧ It.right L = true) ∨ (It.checkErr L = 4 ∧ It.right L = false) := by
  unfold It.checkErr
  cases h : It.right L
  · exact .inr ⟨rfl, rfl⟩
  · exact .inl ⟨rfl, rfl⟩
set_option maxHeartbeats 4000000 in
theorem scheck_any : ChkSaid (Sp.chk Sp.isSp) := by
  intro S v L w hv hok
  have HV : Hid (TabAt S w v L) := hv
  have HOK : Hid (Sp.okN L) := hok
  obtain ⟨ao, cap, rfl, -, -⟩ := hv.open
  clear hv hok
  rcases checkErr_or (pl L) with ⟨hc, hr⟩ | ⟨hc, hr⟩
  · have HC : Hid (It.checkErr (pl L) = 0) := hc
    have HR : Hid (It.right (pl L) = true) := hr
    clear hc hr
    cases hf : Sp.foldsB (pl L) with
    | true =>
      have HF : Hid (Sp.foldsB (pl L) = true) := hf
      cases hn : Sp.cntB (pl L) with
      | true =>
        have HN : Hid (Sp.cntB (pl L) = true) := hn
        have HT : Hid (Sp.Tree (pl L)) := Sp.tree_of HR.out (Sp.foldsB_iff.1 hf) hn
        have hl := (Sp.right_len HR.out).2
        have HL : Hid (L.length ≤ 24) := by show L.length ≤ 24; rwa [List.length_map] at hl
        have HD : Hid (Sp.deep (pl L) 24 0) := Sp.deep_all HT.out hl (show Sp.Anc (pl L) 0 0 0 from rfl) (Sp.dirAt_lt HT.out.root)
        have HLN : Hid ((Sp.walk (pl L) 24 0 ⟨#[]⟩).length ≤ 24) := Nat.le_trans (Sp.walk_len HT.out 24 ⟨#[]⟩) (by rw [← Sp.count_dirs]; exact Nat.le_trans List.countP_le_length hl)
        obtain ⟨q, hq⟩ : ∃ q, Sp.reachB (pl L) = q := ⟨_, rfl⟩
        have HQ : Hid (Sp.reachB (pl L) = q) := hq
        have hres : Sp.chk Sp.isSp (pl L) = if q = true then 0 else 4 := by
          unfold Sp.chk Sp.isSp
          rw [HR.out, hf, hn, hq]
          rfl
        rw [hres]
        clear hres hq hl hf hn
        cases q with
        | true =>
          rw [if_pos rfl]
          go_enter Tryz.func10, Tryz.ntmps10
          go_wp2_with fail
          refine (check_any _ L _ HV.out).mono ?_
          rintro e w1 ⟨rfl, hb⟩
          rw [HC.out]
          have HB1 : Hid (Below w.heap.size w w1) := hb
          clear hb
          go_wp2_with fail
          refine (rightFolders_any _ L _ (HV.out.up HB1.out) HOK.out).mono ?_
          rintro e w2 ⟨rfl, hb⟩
          rw [HF.out]
          have HB2 : Hid (Below w.heap.size w w2) := HB1.out.trans (hb.mono HB1.out.size)
          clear hb
          go_wp2_with fail
          refine (counted_any _ L _ (HV.out.up HB2.out) HR.out).mono ?_
          rintro e w3 ⟨rfl, hb⟩
          rw [HN.out]
          have HB3 : Hid (Below w.heap.size w w3) := HB2.out.trans (hb.mono HB2.out.size)
          clear hb
          go_wp2_with fail
          refine (reached_any _ L _ (HV.out.up HB3.out) HD.out HL.out HLN.out).mono ?_
          rintro e w4 ⟨rfl, hb⟩
          rw [show (((Sp.walk (pl L) 24 0 ⟨#[]⟩).length : Int) - ((pl L).countP (fun x => x.kind == 2) : Nat) == 0) = true from HQ.out]
          have HB4 : Hid (Below w.heap.size w w4) := HB3.out.trans (hb.mono HB3.out.size)
          clear hb
          go_wp2
          go_ret
          exact ⟨rfl, HB4.out⟩
        | false =>
          rw [if_neg (by decide)]
          go_enter Tryz.func10, Tryz.ntmps10
          go_wp2_with fail
          refine (check_any _ L _ HV.out).mono ?_
          rintro e w1 ⟨rfl, hb⟩
          rw [HC.out]
          have HB1 : Hid (Below w.heap.size w w1) := hb
          clear hb
          go_wp2_with fail
          refine (rightFolders_any _ L _ (HV.out.up HB1.out) HOK.out).mono ?_
          rintro e w2 ⟨rfl, hb⟩
          rw [HF.out]
          have HB2 : Hid (Below w.heap.size w w2) := HB1.out.trans (hb.mono HB1.out.size)
          clear hb
          go_wp2_with fail
          refine (counted_any _ L _ (HV.out.up HB2.out) HR.out).mono ?_
          rintro e w3 ⟨rfl, hb⟩
          rw [HN.out]
          have HB3 : Hid (Below w.heap.size w w3) := HB2.out.trans (hb.mono HB2.out.size)
          clear hb
          go_wp2_with fail
          refine (reached_any _ L _ (HV.out.up HB3.out) HD.out HL.out HLN.out).mono ?_
          rintro e w4 ⟨rfl, hb⟩
          rw [show (((Sp.walk (pl L) 24 0 ⟨#[]⟩).length : Int) - ((pl L).countP (fun x => x.kind == 2) : Nat) == 0) = false from HQ.out]
          have HB4 : Hid (Below w.heap.size w w4) := HB3.out.trans (hb.mono HB3.out.size)
          clear hb
          go_wp2
          go_ret
          exact ⟨rfl, HB4.out⟩
      | false =>
        have HN : Hid (Sp.cntB (pl L) = false) := hn
        have hres : Sp.chk Sp.isSp (pl L) = 4 := by
          unfold Sp.chk Sp.isSp
          rw [HR.out, hf, hn]
          rfl
        rw [hres]
        clear hres hf hn
        go_enter Tryz.func10, Tryz.ntmps10
        go_wp2_with fail
        refine (check_any _ L _ HV.out).mono ?_
        rintro e w1 ⟨rfl, hb⟩
        rw [HC.out]
        have HB1 : Hid (Below w.heap.size w w1) := hb
        clear hb
        go_wp2_with fail
        refine (rightFolders_any _ L _ (HV.out.up HB1.out) HOK.out).mono ?_
        rintro e w2 ⟨rfl, hb⟩
        rw [HF.out]
        have HB2 : Hid (Below w.heap.size w w2) := HB1.out.trans (hb.mono HB1.out.size)
        clear hb
        go_wp2_with fail
        refine (counted_any _ L _ (HV.out.up HB2.out) HR.out).mono ?_
        rintro e w3 ⟨rfl, hb⟩
        rw [HN.out]
        have HB3 : Hid (Below w.heap.size w w3) := HB2.out.trans (hb.mono HB2.out.size)
        clear hb
        go_wp2
        go_ret
        exact ⟨rfl, HB3.out⟩
    | false =>
      have HF : Hid (Sp.foldsB (pl L) = false) := hf
      have hres : Sp.chk Sp.isSp (pl L) = 4 := by
        unfold Sp.chk Sp.isSp
        rw [HR.out, hf]
        rfl
      rw [hres]
      clear hres hf
      go_enter Tryz.func10, Tryz.ntmps10
      go_wp2_with fail
      refine (check_any _ L _ HV.out).mono ?_
      rintro e w1 ⟨rfl, hb⟩
      rw [HC.out]
      have HB1 : Hid (Below w.heap.size w w1) := hb
      clear hb
      go_wp2_with fail
      refine (rightFolders_any _ L _ (HV.out.up HB1.out) HOK.out).mono ?_
      rintro e w2 ⟨rfl, hb⟩
      rw [HF.out]
      have HB2 : Hid (Below w.heap.size w w2) := HB1.out.trans (hb.mono HB1.out.size)
      clear hb
      go_wp2
      go_ret
      exact ⟨rfl, HB2.out⟩
  · have HC : Hid (It.checkErr (pl L) = 4) := hc
    have hres : Sp.chk Sp.isSp (pl L) = 4 := by
      unfold Sp.chk Sp.isSp
      rw [hr]
      rfl
    rw [hres]
    clear hres hc hr
    go_enter Tryz.func10, Tryz.ntmps10
    go_wp2_with fail
    refine (check_any _ L _ HV.out).mono ?_
    rintro e w1 ⟨rfl, hb⟩
    rw [HC.out]
    go_wp2
    go_ret
    exact ⟨rfl, hb⟩
theorem Sp.len_sum {β : Type} (f : β → Nat) (B : Nat) : ∀ (n : Nat) (l : List β), (∀ e ∈ l, f e < n) → (∀ c, c < n → l.countP (fun e => f e == c) ≤ B) → l.length ≤ n * B
  | 0, l, h, _ => by
    cases l with
    | nil => simp
    | cons e r => have := h e (by simp); omega
  | n + 1, l, h, hc => by
    have h1 : l.length = l.countP (fun e => f e == n) + (l.filter (fun e => !(f e == n))).length := by
      rw [← List.countP_eq_length_filter, List.length_eq_countP_add_countP (fun e => f e == n)]
      congr 1
      refine List.countP_congr fun e _ => ?_
      simp
    have h2 := Sp.len_sum f B n (l.filter (fun e => !(f e == n))) (fun e he => by
      obtain ⟨h3, h4⟩ := List.mem_filter.1 he
      have := h e h3
      simp at h4
      omega) (fun c hcn => Nat.le_trans (List.Sublist.countP_le List.filter_sublist) (hc c (by omega)))
    have h3 := hc n (by omega)
    rw [h1, Nat.succ_mul]
    omega
theorem Sp.few {L : List Ino} (h : It.right L = true) (hc : Sp.cntB L = true) (c : Nat) : (Sp.allEnts L).countP (fun e => e.2.2.1.toNat == c) ≤ 64 := by
  by_cases hcl : c < L.length
  · have hx : L[c]? = some L[c] := List.getElem?_eq_getElem hcl
    have e1 : (Sp.allEnts L).countP (fun e => e.2.2.1.toNat == c) = Sp.cnt L ((c : Int), L[c].gen) := by
      unfold Sp.cnt
      refine List.countP_congr fun e he => ?_
      obtain ⟨h1, _, _⟩ := Sp.ent_named h hc he
      obtain ⟨i, x, hxi, hno, hg, _⟩ := names_iff.1 h1
      simp only [beq_iff_eq]
      constructor
      · intro h2
        have : i = c := by omega
        subst this
        rw [hx] at hxi
        cases hxi
        exact Prod.ext hno hg.symm
      · intro h2
        rw [h2]
        simp
    have h1 := (Sp.cntB_iff h).1 hc ((c : Int), L[c].gen)
    have h2 : Sp.Small (Sp.start L) := (Sp.startK_small h _).set _ (by decide) (by decide)
    have h3 := h2.val ((c : Int), L[c].gen)
    rw [e1]
    omega
  · have : (Sp.allEnts L).countP (fun e => e.2.2.1.toNat == c) = 0 := by
      refine List.countP_eq_zero.2 fun e he hec => ?_
      obtain ⟨h1, _, _⟩ := Sp.ent_named h hc he
      obtain ⟨i, x, hxi, hno, _⟩ := names_iff.1 h1
      have := (List.getElem?_eq_some_iff.1 hxi).1
      simp at hec
      omega
    omega
theorem isSp_means : Sp.ChkMeans (Sp.chk Sp.isSp) := by
  intro L hc
  have hs : Sp.isSp L = true := by
    unfold Sp.chk at hc
    split at hc
    · assumption
    · cases hc
  obtain ⟨h1, h2, h3, _⟩ := Sp.isSp_iff.1 hs
  have key : ∀ x ∈ L, ∀ e ∈ x.ents, findErr L e.2.2.1 e.2.2.2 = 0 ∧ 1 ≤ (findI L e.2.2.1 e.2.2.2).links ∧ e.2.2.1 ≠ 0 := fun x hx e he => by
    obtain ⟨h4, h5, h6⟩ := Sp.ent_named h1 h3 (List.mem_flatMap.2 ⟨x, hx, he⟩)
    have h7 : findErr L e.2.2.1 e.2.2.2 = 0 := by unfold findErr; rw [if_pos h1, if_pos h4]
    refine ⟨h7, ?_, h5⟩
    unfold findI
    rw [if_pos h7]
    exact h6
  refine ⟨h1, h2, fun x hx => ?_, key⟩
  obtain ⟨p, hp⟩ := List.mem_iff_getElem?.1 hx
  have h4 : x.ents.length ≤ (Sp.allEnts L).length := by
    have := Sp.one_in (fun _ => true) L p
    rw [List.countP_true] at this
    unfold Sp.entsAt at this
    rw [hp] at this
    exact this
  have h5 := Sp.len_sum (fun e : Sp.En => e.2.2.1.toNat) 64 24 (Sp.allEnts L) (fun e he => by
    obtain ⟨h6, _⟩ := Sp.ent_named h1 h3 he
    obtain ⟨i, y, hy, hno, _⟩ := names_iff.1 h6
    have h7 := (List.getElem?_eq_some_iff.1 hy).1
    have h8 := (Sp.right_len h1).2
    show e.2.2.1.toNat < 24
    omega) (fun c _ => Sp.few h1 h3 c)
  omega
/-- Is a folder below an inode, or the inode itself? -/
def Sp.insB (L : List Ino) (no to : Int) : Bool := (Sp.walk L 24 no.toNat ⟨#[]⟩).any fun z => (z.1 : Int) == to
theorem ins_said : InsSaid (Sp.chk Sp.isSp) Sp.insB := by
  rintro S v L no to w hv hok hc ⟨k, x, rfl, hk, -⟩
  have hs : Sp.isSp (pl L) = true := by
    unfold Sp.chk at hc
    split at hc
    · assumption
    · cases hc
  have hl := (Sp.right_len (Sp.isSp_iff.1 hs).1).2
  rw [List.length_map] at hl
  have := inside_any v L k to w hv (Sp.isSp_deep hs (List.getElem?_eq_some_iff.1 hk).1) (by omega)
  unfold Sp.insB
  rw [show ((k : Int)).toNat = k by omega]
  exact this
end Go.Proofs.YtacghcoikekfeaaGreat
/- SIns -/
namespace Go.Proofs.YtacghcoikekfeaaGreat
open It
set_option maxRecDepth 100000
theorem Sp.chk_zero {L : List Ino} (h : Sp.chk Sp.isSp L = 0) : Sp.isSp L = true := by
  unfold Sp.chk at h
  split at h
  · assumption
  · cases h
theorem Sp.ents_isdir {L : List Ino} (h : It.right L = true) {p : Nat} {e : Sp.En} (he : e ∈ Sp.entsAt L p) : Sp.dirAt L p = true := by
  have hpl := Sp.ents_lt he
  have hx : L[p]? = some L[p] := List.getElem?_eq_getElem hpl
  have hem : e ∈ L[p].ents := by
    unfold Sp.entsAt at he
    rw [hx] at he
    exact he
  unfold Sp.dirAt
  rw [hx]
  simp [Sp.ents_dir h hx hem]
theorem Sp.insB_iff {L : List Ino} (hs : Sp.isSp L = true) {no c : Nat} (hdn : Sp.dirAt L no = true) : Sp.insB L no c = true ↔ ∃ d, Sp.Anc L d no c := by
  obtain ⟨h1, -, -, h4⟩ := Sp.isSp_iff.1 hs
  have ht := Sp.isSp_tree hs
  have hl := (Sp.right_len h1).2
  unfold Sp.insB
  rw [show ((no : Int)).toNat = no by omega, List.any_eq_true]
  constructor
  · rintro ⟨z, hz, he⟩
    obtain ⟨d, ha⟩ := Sp.walk_mem ht _ _ _ z hz
    refine ⟨d, ?_⟩
    have : z.1 = c := by have := beq_iff_eq.1 he; omega
    rwa [this] at ha
  · rintro ⟨d, ha⟩
    obtain ⟨m, hm⟩ := (Sp.reachB_iff ht hl).1 h4 no hdn
    have := Sp.anc_lt ht (Sp.anc_trans hm d c ha)
    obtain ⟨z, hz, he⟩ := Sp.walk_has ht 24 no ⟨#[]⟩ d c ha (by omega)
    exact ⟨z, hz, by rw [he]; simp⟩
theorem ins_means : Sp.InsMeans (Sp.chk Sp.isSp) Sp.insB := by
  intro L no c hc hdc hno
  have hs := Sp.chk_zero hc
  obtain ⟨h1, -, -, h4⟩ := Sp.isSp_iff.1 hs
  have ht := Sp.isSp_tree hs
  have hl := (Sp.right_len h1).2
  refine ⟨fun hdn f hsd hfl => ?_, fun hdn => ?_⟩
  · cases hi : Sp.insB L no c with
    | true =>
      obtain ⟨d, ha⟩ := (Sp.insB_iff hs hdn).1 hi
      obtain ⟨m, hm⟩ := (Sp.reachB_iff ht hl).1 h4 no hdn
      have := Sp.anc_lt ht (Sp.anc_trans hm d c ha)
      exact hfl d (by omega) c (Sp.dirAt_lt hdc) (Sp.anc_rch d c ha)
    | false =>
      cases hf : f c with
      | false => rfl
      | true =>
        obtain ⟨d, hr⟩ := hsd c (Sp.dirAt_lt hdc) hf
        rw [(Sp.insB_iff hs hdn).2 ⟨d, Sp.rch_anc h1 d c hr hdc⟩] at hi
        cases hi
  · cases hi : Sp.insB L no c with
    | false => rfl
    | true =>
      exfalso
      unfold Sp.insB at hi
      rw [show ((no : Int)).toNat = no by omega, List.any_eq_true] at hi
      obtain ⟨z, hz, he⟩ := hi
      obtain ⟨d, ha⟩ := Sp.walk_mem ht _ _ _ z hz
      have hzc : z.1 = c := by have := beq_iff_eq.1 he; omega
      rw [hzc] at ha
      cases d with
      | zero =>
        have : no = c := ha
        rw [this, hdc] at hdn
        cases hdn
      | succ d =>
        rw [Nat.add_comm] at ha
        obtain ⟨q, h5, -⟩ := Sp.anc_split d c ha
        obtain ⟨p, hp, ⟨e, hem, -⟩, -⟩ := h5
        have : no = p := hp
        rw [← this] at hem
        rw [Sp.ents_isdir h1 hem] at hdn
        cases hdn
/-- The reference's, as they are asked. -/
theorem rtMeans : Sp.RtMeans Sp.isSp := fun _ h => (Sp.isSp_iff.1 h).1
end Go.Proofs.YtacghcoikekfeaaGreat
/- RPa -/
namespace Go.Proofs.YtacghcoikekfeaaGreat
open Go.ChangeShapes Go.WideShapes Go.ChangeAt Go.RowKit Go.Deep It
set_option maxRecDepth 100000
namespace Sp
/-- The ways of a folder's entries. -/
def ways (L : List Ino) (z : Nat × ByteArray) : List ByteArray := (entsAt L z.1).map fun e => way z.2 e.1
theorem insT_perm (s : ByteArray) : ∀ l : List ByteArray, (insT s l).Perm (s :: l)
  | [] => .refl _
  | x :: l => by
    unfold insT
    split
    · exact .refl _
    · exact ((insT_perm s l).cons x).trans (.swap _ _ _)
theorem fold_perm {L : List Ino} {f : Nat} {path : ByteArray} (h : ∀ o e, (belowE L f path o e).Perm (o ++ way path e.1 :: (step L f path e).flatMap (ways L))) : ∀ (es : List En) (o : List ByteArray), (es.foldl (belowE L f path) o).Perm (o ++ (es.map (fun e => way path e.1) ++ es.flatMap fun e => (step L f path e).flatMap (ways L)))
  | [], o => by simp
  | e :: es, o => by
    rw [List.foldl_cons, List.map_cons, List.flatMap_cons]
    refine (fold_perm h es _).trans ?_
    refine ((h o e).append_right _).trans ?_
    rw [List.append_assoc, List.cons_append, List.cons_append]
    refine (List.Perm.cons _ ?_).append_left o
    rw [← List.append_assoc, ← List.append_assoc]
    exact (List.perm_append_comm).append_right _
theorem below_perm (L : List Ino) : ∀ (f no : Nat) (path : ByteArray) (out : List ByteArray), (below L f no path out).Perm (out ++ (walk L f no path).flatMap (ways L))
  | 0, _, _, out => by simp [below, walk]
  | f + 1, no, path, out => by
    rw [below_succ, walk_succ, List.flatMap_cons, List.flatMap_assoc]
    refine fold_perm (fun o e => ?_) _ _
    unfold belowE
    split
    · rename_i hd
      rw [step_dir hd]
      refine (below_perm L f _ _ _).trans ?_
      refine ((insT_perm _ _).append_right _).trans ?_
      rw [List.cons_append]
      exact List.perm_middle.symm
    · rename_i hd
      rw [step_file (by simpa using hd)]
      refine (insT_perm _ _).trans ?_
      simp only [List.flatMap_nil]
      exact (List.perm_append_comm (l₁ := [way path e.1]) (l₂ := o))
theorem flat_len {α β : Type} {f : α → List β} {B : Nat} : ∀ l : List α, (∀ x ∈ l, (f x).length ≤ B) → (l.flatMap f).length ≤ l.length * B
  | [], _ => by simp
  | x :: l, h => by
    rw [List.flatMap_cons, List.length_append, List.length_cons, Nat.succ_mul]
    have h1 := h x (by simp)
    have h2 := flat_len l fun y hy => h y (List.mem_cons_of_mem _ hy)
    omega
theorem ways_few {L : List Ino} (h : isSp L = true) : ((walk L 24 0 ⟨#[]⟩).flatMap (ways L)).length ≤ 36864 := by
  have ht := isSp_tree h
  have h1 := walk_len ht 24 ⟨#[]⟩
  have h2 : (dirs L).length ≤ 24 := by
    unfold dirs
    have := List.length_filter_le (dirAt L) (List.range L.length)
    rw [List.length_range] at this
    have := (right_len (isSp_iff.1 h).1).2
    omega
  have h3 := flat_len (f := ways L) (B := 1536) (walk L 24 0 ⟨#[]⟩) (fun z _ => by
    unfold ways
    rw [List.length_map]
    unfold entsAt
    split
    · rename_i x hx
      exact (isSp_means L (by unfold chk; rw [if_pos h])).2.2.1 x (List.mem_of_getElem? hx)
    · simp)
  have : (walk L 24 0 ⟨#[]⟩).length * 1536 ≤ 24 * 1536 := Nat.mul_le_mul_right _ (by omega)
  omega
/-- The paths, as the reference has them. -/
noncomputable def pathsR (L : List Ino) : List ByteArray := if isSp L = true then ⟨#[47]⟩ :: below L 24 0 ⟨#[]⟩ [] else []
theorem below_few {L : List Ino} (h : isSp L = true) : (below L 24 0 ⟨#[]⟩ []).length ≤ 36864 := by
  rw [(below_perm L 24 0 ⟨#[]⟩ []).length_eq, List.nil_append]
  exact ways_few h
end Sp
theorem nilT {w : World} : AtW ETx w (.slice none 0 0) [] := .inl ⟨_, _, rfl, rfl⟩
theorem row_oneT {w : World} {A : Nat} {s : ByteArray} (h : w.heap[A]? = some (.cells #[.string s] 9)) : Row ETx w A 9 (.slice (some ⟨A, 0, none⟩) 1 1) [s] := by
  refine .inr ⟨A, 1, #[.string s], rfl, Nat.le_refl _, h, by simp, by unfold maxLen; omega, by simp [ETx], ?_⟩
  rfl
set_option maxHeartbeats 4000000 in
theorem rpaths_any {S : Nat → Prop} (v : Value) (L : List Rw) (w : World) (hv : TabAt S w v L) (hok : Sp.okN L) :
    Calls Tryz.prog 14 #[v] w fun e w' => ∃ u, e = .returned u ∧ AtW ETx w' u (Sp.pathsR (pl L)) ∧ Below w.heap.size w w' := by
  obtain ⟨j0, hj, hy0, hy1, hy2⟩ := info_parts infoT
  have HV : Hid (TabAt S w v L) := hv
  have HOK : Hid (Sp.okN L) := hok
  obtain ⟨ao, cap, rfl, -, -⟩ := hv.open
  obtain ⟨n, hn⟩ : ∃ n, L.length = n := ⟨_, rfl⟩
  have HN : Hid (L.length = n) := hn
  rw [hn] at HV ⊢
  clear hv hok hn
  cases hs : Sp.isSp (pl L) with
  | false =>
    have HS : Hid (Sp.isSp (pl L) = false) := hs
    have HP : Hid (Sp.pathsR (pl L) = []) := by show _ = _; unfold Sp.pathsR; rw [hs]; rfl
    rw [HP.out]
    clear hs
    go_enter Tryz.func14, Tryz.ntmps14
    go_wp2_with fail
    refine (rspace_any S _ L _ HV.out HOK.out).mono ?_
    rintro e w1 ⟨rfl, hb1⟩
    rw [HS.out]
    have HB1 : Hid (Below w.heap.size w w1) := hb1
    clear hb1
    go_wp2
    go_ret
    exact ⟨_, rfl, nilT, HB1.out⟩
  | true =>
    have HS : Hid (Sp.isSp (pl L) = true) := hs
    have HP : Hid (Sp.pathsR (pl L) = ⟨#[47]⟩ :: Sp.below (pl L) 24 0 ⟨#[]⟩ []) := by show _ = _; unfold Sp.pathsR; rw [if_pos hs]
    rw [HP.out]
    have HF : Hid ((Sp.below (pl L) 24 0 ⟨#[]⟩ []).length ≤ 36864) := Sp.below_few hs
    have hr := (Sp.isSp_iff.1 hs).1
    have hn24 : n ≤ 24 := by rw [← HN.out]; have := (Sp.right_len hr).2; rw [List.length_map] at this; exact this
    have HD : Hid (Sp.deep (pl L) 24 0) := Sp.isSp_deep hs (by have := (Sp.right_len hr).1; omega)
    obtain ⟨bl, hbl⟩ : ∃ bl, Sp.below (pl L) 24 0 ⟨#[]⟩ [] = bl := ⟨_, rfl⟩
    have HBL : Hid (Sp.below (pl L) 24 0 ⟨#[]⟩ [] = bl) := hbl
    rw [hbl] at HF ⊢
    clear hs hr hbl
    go_enter Tryz.func14, Tryz.ntmps14
    go_wp2_with fail
    refine (rspace_any S _ L _ HV.out HOK.out).mono ?_
    rintro e w1 ⟨rfl, hb1⟩
    rw [HS.out]
    have HB1 : Hid (Below w.heap.size w w1) := hb1
    clear hb1
    obtain ⟨W1, hW1⟩ : ∃ W1, W1 = w1.alloc (.cells #[.string ⟨#[47]⟩] 9) := ⟨_, rfl⟩
    have HBW : Hid (Below w.heap.size w W1) := by show Below _ _ _; rw [hW1]; exact HB1.out.alloc HB1.out.size _
    have HX1 : Hid (W1.heap[w1.heap.size]? = some (.cells #[.string ⟨#[47]⟩] 9)) := by show W1.heap[w1.heap.size]? = _; rw [hW1]; exact heap_alloc_new _ _
    have hl1 : w1.heap.size < W1.heap.size := by rw [hW1]; simp
    go_wp2_with fail
    rw [← hW1]
    clear hW1
    refine (rbelow_any L ao n cap HN.out (by omega) 24 0 ⟨#[]⟩ [] (.slice none 0 0) _ HD.out (by decide) (HV.out.up HBW.out) nilT (by rw [HBL.out]; have := HF.out; omega)).mono ?_
    rintro e w2 ⟨u2, rfl, ho2, hb2⟩
    rw [HBL.out] at ho2
    have HB2 : Hid (Below w.heap.size w w2) := HBW.out.trans (hb2.mono HBW.out.size)
    have HR2 : Hid (Row ETx w2 w1.heap.size 9 (.slice (some ⟨w1.heap.size, 0, none⟩) 1 1) [⟨#[47]⟩]) := row_oneT ((hb2.block _ hl1).trans HX1.out)
    have HO2 : Hid (AtW ETx w2 u2 bl) := ho2
    have hs2 : w1.heap.size ≤ w2.heap.size := Nat.le_trans (Nat.le_of_lt hl1) hb2.size
    obtain ⟨p2, c2, rfl, -, -⟩ := ho2.open
    have hw1 := HB1.out.size
    clear ho2 hb2
    go_wp2_with (at_builtin; refine wpList_row _ rfl _ _ 28 rfl ETx (fun _ => True) w1.heap.size 9 j0 _ 16 Tryz.underlying28 hj hy0 hy1 hy2 rfl _ [⟨#[47]⟩] rfl HR2.out _ bl rfl HO2.out (by have := HF.out; unfold maxLen; simp only [List.length_cons, List.length_nil]; omega) (by have := HF.out; simp only [List.length_cons, List.length_nil]; omega) hs2 ?_; intro v7 w7 hrow7 hg7 hloc7; have HEND : Hid (Row ETx w7 w1.heap.size 9 v7 ([⟨#[47]⟩] ++ bl) ∧ Below w.heap.size w w7) := ⟨hrow7, HB2.out.grown hg7 HB2.out.size (fun k hk => Nat.le_trans hw1 (HR2.out.lt k hk).1)⟩; clear hrow7 hg7 hloc7)
    go_ret
    exact ⟨_, rfl, HEND.out.1.at.wide, HEND.out.2⟩
end Go.Proofs.YtacghcoikekfeaaGreat
