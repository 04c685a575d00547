/-
  The texts Chk, RRt0, RRt, SIns, FPlainH, Sta, Sta1, RSo, RBe, RPa, as one.
-/
import Derived.Test.YtacghcoikekfeaaM9
/- Chk -/
namespace Go.Proofs.Ytacghcoikekfeaa
open Go.ChangeShapes Go.WideShapes Go.ChangeAt Go.RowKit Go.Deep It
set_option maxRecDepth 100000
theorem checkErr_or (L : List Ino) : (It.checkErr L = 0 ∧ It.right L = true) ∨ (It.checkErr L = 4 ∧ It.right L = false) := by
  unfold It.checkErr
  cases h : It.right L
  · exact .inr ⟨rfl, rfl⟩
  · exact .inl ⟨rfl, rfl⟩
set_option maxHeartbeats 4000000 in
theorem scheck_any : ChkSaid (Sp.chk Sp.isSp) := by
  intro S v L w hv hok
  have HV : Hid (TabAt S w v L) := hv
  have HOK : Hid (Sp.okN L) := hok
  obtain ⟨ao, cap, rfl, -, -⟩ := hv.open
  clear hv hok
  rcases checkErr_or (pl L) with ⟨hc, hr⟩ | ⟨hc, hr⟩
  · have HC : Hid (It.checkErr (pl L) = 0) := hc
    have HR : Hid (It.right (pl L) = true) := hr
    clear hc hr
    cases hf : Sp.foldsB (pl L) with
    | true =>
      have HF : Hid (Sp.foldsB (pl L) = true) := hf
      cases hn : Sp.cntB (pl L) with
      | true =>
        have HN : Hid (Sp.cntB (pl L) = true) := hn
        have HT : Hid (Sp.Tree (pl L)) := Sp.tree_of HR.out (Sp.foldsB_iff.1 hf) hn
        have hl := (Sp.right_len HR.out).2
        have HL : Hid (L.length ≤ 24) := by show L.length ≤ 24; rwa [List.length_map] at hl
        have HD : Hid (Sp.deep (pl L) 24 0) := Sp.deep_all HT.out hl (show Sp.Anc (pl L) 0 0 0 from rfl) (Sp.dirAt_lt HT.out.root)
        have HLN : Hid ((Sp.walk (pl L) 24 0 ⟨#[]⟩).length ≤ 24) := Nat.le_trans (Sp.walk_len HT.out 24 ⟨#[]⟩) (by rw [← Sp.count_dirs]; exact Nat.le_trans List.countP_le_length hl)
        obtain ⟨q, hq⟩ : ∃ q, Sp.reachB (pl L) = q := ⟨_, rfl⟩
        have HQ : Hid (Sp.reachB (pl L) = q) := hq
        have hres : Sp.chk Sp.isSp (pl L) = if q = true then 0 else 4 := by
          unfold Sp.chk Sp.isSp
          rw [HR.out, hf, hn, hq]
          rfl
        rw [hres]
        clear hres hq hl hf hn
        cases q with
        | true =>
          rw [if_pos rfl]
          go_enter Try.func19, Try.ntmps19
          go_wp2_with fail
          refine (check_any _ L _ HV.out).mono ?_
          rintro e w1 ⟨rfl, hb⟩
          rw [HC.out]
          have HB1 : Hid (Below w.heap.size w w1) := hb
          clear hb
          go_wp2_with fail
          refine (rightFolders_any _ L _ (HV.out.up HB1.out) HOK.out).mono ?_
          rintro e w2 ⟨rfl, hb⟩
          rw [HF.out]
          have HB2 : Hid (Below w.heap.size w w2) := HB1.out.trans (hb.mono HB1.out.size)
          clear hb
          go_wp2_with fail
          refine (counted_any _ L _ (HV.out.up HB2.out) HR.out).mono ?_
          rintro e w3 ⟨rfl, hb⟩
          rw [HN.out]
          have HB3 : Hid (Below w.heap.size w w3) := HB2.out.trans (hb.mono HB2.out.size)
          clear hb
          go_wp2_with fail
          refine (reached_any _ L _ (HV.out.up HB3.out) HD.out HL.out HLN.out).mono ?_
          rintro e w4 ⟨rfl, hb⟩
          rw [show (((Sp.walk (pl L) 24 0 ⟨#[]⟩).length : Int) - ((pl L).countP (fun x => x.kind == 2) : Nat) == 0) = true from HQ.out]
          have HB4 : Hid (Below w.heap.size w w4) := HB3.out.trans (hb.mono HB3.out.size)
          clear hb
          go_wp2
          go_ret
          exact ⟨rfl, HB4.out⟩
        | false =>
          rw [if_neg (by decide)]
          go_enter Try.func19, Try.ntmps19
          go_wp2_with fail
          refine (check_any _ L _ HV.out).mono ?_
          rintro e w1 ⟨rfl, hb⟩
          rw [HC.out]
          have HB1 : Hid (Below w.heap.size w w1) := hb
          clear hb
          go_wp2_with fail
          refine (rightFolders_any _ L _ (HV.out.up HB1.out) HOK.out).mono ?_
          rintro e w2 ⟨rfl, hb⟩
          rw [HF.out]
          have HB2 : Hid (Below w.heap.size w w2) := HB1.out.trans (hb.mono HB1.out.size)
          clear hb
          go_wp2_with fail
          refine (counted_any _ L _ (HV.out.up HB2.out) HR.out).mono ?_
          rintro e w3 ⟨rfl, hb⟩
          rw [HN.out]
          have HB3 : Hid (Below w.heap.size w w3) := HB2.out.trans (hb.mono HB2.out.size)
          clear hb
          go_wp2_with fail
          refine (reached_any _ L _ (HV.out.up HB3.out) HD.out HL.out HLN.out).mono ?_
          rintro e w4 ⟨rfl, hb⟩
          rw [show (((Sp.walk (pl L) 24 0 ⟨#[]⟩).length : Int) - ((pl L).countP (fun x => x.kind == 2) : Nat) == 0) = false from HQ.out]
          have HB4 : Hid (Below w.heap.size w w4) := HB3.out.trans (hb.mono HB3.out.size)
          clear hb
          go_wp2
          go_ret
          exact ⟨rfl, HB4.out⟩
      | false =>
        have HN : Hid (Sp.cntB (pl L) = false) := hn
        have hres : Sp.chk Sp.isSp (pl L) = 4 := by
          unfold Sp.chk Sp.isSp
          rw [HR.out, hf, hn]
          rfl
        rw [hres]
        clear hres hf hn
        go_enter Try.func19, Try.ntmps19
        go_wp2_with fail
        refine (check_any _ L _ HV.out).mono ?_
        rintro e w1 ⟨rfl, hb⟩
        rw [HC.out]
        have HB1 : Hid (Below w.heap.size w w1) := hb
        clear hb
        go_wp2_with fail
        refine (rightFolders_any _ L _ (HV.out.up HB1.out) HOK.out).mono ?_
        rintro e w2 ⟨rfl, hb⟩
        rw [HF.out]
        have HB2 : Hid (Below w.heap.size w w2) := HB1.out.trans (hb.mono HB1.out.size)
        clear hb
        go_wp2_with fail
        refine (counted_any _ L _ (HV.out.up HB2.out) HR.out).mono ?_
        rintro e w3 ⟨rfl, hb⟩
        rw [HN.out]
        have HB3 : Hid (Below w.heap.size w w3) := HB2.out.trans (hb.mono HB2.out.size)
        clear hb
        go_wp2
        go_ret
        exact ⟨rfl, HB3.out⟩
    | false =>
      have HF : Hid (Sp.foldsB (pl L) = false) := hf
      have hres : Sp.chk Sp.isSp (pl L) = 4 := by
        unfold Sp.chk Sp.isSp
        rw [HR.out, hf]
        rfl
      rw [hres]
      clear hres hf
      go_enter Try.func19, Try.ntmps19
      go_wp2_with fail
      refine (check_any _ L _ HV.out).mono ?_
      rintro e w1 ⟨rfl, hb⟩
      rw [HC.out]
      have HB1 : Hid (Below w.heap.size w w1) := hb
      clear hb
      go_wp2_with fail
      refine (rightFolders_any _ L _ (HV.out.up HB1.out) HOK.out).mono ?_
      rintro e w2 ⟨rfl, hb⟩
      rw [HF.out]
      have HB2 : Hid (Below w.heap.size w w2) := HB1.out.trans (hb.mono HB1.out.size)
      clear hb
      go_wp2
      go_ret
      exact ⟨rfl, HB2.out⟩
  · have HC : Hid (It.checkErr (pl L) = 4) := hc
    have hres : Sp.chk Sp.isSp (pl L) = 4 := by
      unfold Sp.chk Sp.isSp
      rw [hr]
      rfl
    rw [hres]
    clear hres hc hr
    go_enter Try.func19, Try.ntmps19
    go_wp2_with fail
    refine (check_any _ L _ HV.out).mono ?_
    rintro e w1 ⟨rfl, hb⟩
    rw [HC.out]
    go_wp2
    go_ret
    exact ⟨rfl, hb⟩
theorem Sp.len_sum {β : Type} (f : β → Nat) (B : Nat) : ∀ (n : Nat) (l : List β), (∀ e ∈ l, f e < n) → (∀ c, c < n → l.countP (fun e => f e == c) ≤ B) → l.length ≤ n * B
  | 0, l, h, _ => by
    cases l with
    | nil => simp
    | cons e r => have := h e (by simp); omega
  | n + 1, l, h, hc => by
    have h1 : l.length = l.countP (fun e => f e == n) + (l.filter (fun e => !(f e == n))).length := by
      rw [← List.countP_eq_length_filter, List.length_eq_countP_add_countP (fun e => f e == n)]
      congr 1
      refine List.countP_congr fun e _ => ?_
      simp
    have h2 := Sp.len_sum f B n (l.filter (fun e => !(f e == n))) (fun e he => by
      obtain ⟨h3, h4⟩ := List.mem_filter.1 he
      have := h e h3
      simp at h4
      omega) (fun c hcn => Nat.le_trans (List.Sublist.countP_le List.filter_sublist) (hc c (by omega)))
    have h3 := hc n (by omega)
    rw [h1, Nat.succ_mul]
    omega
theorem Sp.few {L : List Ino} (h : It.right L = true) (hc : Sp.cntB L = true) (c : Nat) : (Sp.allEnts L).countP (fun e => e.2.2.1.toNat == c) ≤ 64 := by
  by_cases hcl : c < L.length
  · have hx : L[c]? = some L[c] := List.getElem?_eq_getElem hcl
    have e1 : (Sp.allEnts L).countP (fun e => e.2.2.1.toNat == c) = Sp.cnt L ((c : Int), L[c].gen) := by
      unfold Sp.cnt
      refine List.countP_congr fun e he => ?_
      obtain ⟨h1, _, _⟩ := Sp.ent_named h hc he
      obtain ⟨i, x, hxi, hno, hg, _⟩ := names_iff.1 h1
      simp only [beq_iff_eq]
      constructor
      · intro h2
        have : i = c := by omega
        subst this
        rw [hx] at hxi
        cases hxi
        exact Prod.ext hno hg.symm
      · intro h2
        rw [h2]
        simp
    have h1 := (Sp.cntB_iff h).1 hc ((c : Int), L[c].gen)
    have h2 : Sp.Small (Sp.start L) := (Sp.startK_small h _).set _ (by decide) (by decide)
    have h3 := h2.val ((c : Int), L[c].gen)
    rw [e1]
    omega
  · have : (Sp.allEnts L).countP (fun e => e.2.2.1.toNat == c) = 0 := by
      refine List.countP_eq_zero.2 fun e he hec => ?_
      obtain ⟨h1, _, _⟩ := Sp.ent_named h hc he
      obtain ⟨i, x, hxi, hno, _⟩ := names_iff.1 h1
      have := (List.getElem?_eq_some_iff.1 hxi).1
      simp at hec
      omega
    omega
theorem isSp_means : Sp.ChkMeans (Sp.chk Sp.isSp) := by
  intro L hc
  have hs : Sp.isSp L = true := by
    unfold Sp.chk at hc
    split at hc
    · assumption
    · cases hc
  obtain ⟨h1, h2, h3, _⟩ := Sp.isSp_iff.1 hs
  have key : ∀ x ∈ L, ∀ e ∈ x.ents, findErr L e.2.2.1 e.2.2.2 = 0 ∧ 1 ≤ (findI L e.2.2.1 e.2.2.2).links ∧ e.2.2.1 ≠ 0 := fun x hx e he => by
    obtain ⟨h4, h5, h6⟩ := Sp.ent_named h1 h3 (List.mem_flatMap.2 ⟨x, hx, he⟩)
    have h7 : findErr L e.2.2.1 e.2.2.2 = 0 := by unfold findErr; rw [if_pos h1, if_pos h4]
    refine ⟨h7, ?_, h5⟩
    unfold findI
    rw [if_pos h7]
    exact h6
  refine ⟨h1, h2, fun x hx => ?_, key⟩
  obtain ⟨p, hp⟩ := List.mem_iff_getElem?.1 hx
  have h4 : x.ents.length ≤ (Sp.allEnts L).length := by
    have := Sp.one_in (fun _ => true) L p
    rw [List.countP_true] at this
    unfold Sp.entsAt at this
    rw [hp] at this
    exact this
  have h5 := Sp.len_sum (fun e : Sp.En => e.2.2.1.toNat) 64 24 (Sp.allEnts L) (fun e he => by
    obtain ⟨h6, _⟩ := Sp.ent_named h1 h3 he
    obtain ⟨i, y, hy, hno, _⟩ := names_iff.1 h6
    have h7 := (List.getElem?_eq_some_iff.1 hy).1
    have h8 := (Sp.right_len h1).2
    show e.2.2.1.toNat < 24
    omega) (fun c _ => Sp.few h1 h3 c)
  omega
/-- Is a folder below an inode, or the inode itself? -/
def Sp.insB (L : List Ino) (no to : Int) : Bool := (Sp.walk L 24 no.toNat ⟨#[]⟩).any fun z => (z.1 : Int) == to
theorem ins_said : InsSaid (Sp.chk Sp.isSp) Sp.insB := by
  rintro S v L no to w hv hok hc ⟨k, x, rfl, hk, -⟩
  have hs : Sp.isSp (pl L) = true := by
    unfold Sp.chk at hc
    split at hc
    · assumption
    · cases hc
  have hl := (Sp.right_len (Sp.isSp_iff.1 hs).1).2
  rw [List.length_map] at hl
  have := inside_any v L k to w hv (Sp.isSp_deep hs (List.getElem?_eq_some_iff.1 hk).1) (by omega)
  unfold Sp.insB
  rw [show ((k : Int)).toNat = k by omega]
  exact this
end Go.Proofs.Ytacghcoikekfeaa
/- RRt0 -/
namespace Go.Proofs.Ytacghcoikekfeaa
open It
set_option maxRecDepth 100000
namespace Sp
/-- As many entries name an inode as should. -/
def num (L : List Ino) (i : Nat) (x : Ino) : Prop := (x.kind = 1 → (nmv L i : Int) = x.links) ∧ (x.kind = 2 → 0 < i → (nmv L i : Int) = 1) ∧ (i = 0 → (nmv L i : Int) = 0)
def okAt (L : List Ino) (i : Nat) (x : Ino) : Prop := fold x ∧ (x.kind = 2 → ∀ e ∈ x.ents, names L e.2.2.1 e.2.2.2 = true) ∧ num L i x
def okAll (L : List Ino) : Prop := ∀ i x, L[i]? = some x → okAt L i x
/-- Where each entry names an inode, its number says which. -/
theorem nmv_cnt {L : List Ino} (hn : ∀ e ∈ allEnts L, names L e.2.2.1 e.2.2.2 = true) {i : Nat} {x : Ino} (hx : L[i]? = some x) : nmv L i = cnt L ((i : Int), x.gen) := by
  unfold nmv cnt
  refine List.countP_congr fun e he => ?_
  obtain ⟨j, y, hy, hno, hg, _⟩ := names_iff.1 (hn e he)
  simp only [toI, beq_iff_eq]
  constructor
  · intro h2
    have : j = i := by omega
    subst this
    rw [hx] at hy
    cases hy
    exact Prod.ext h2 hg.symm
  · intro h2
    rw [h2]
theorem root_kind {L : List Ino} (h : It.right L = true) {x : Ino} (hx : L[0]? = some x) : x.kind = 2 := by
  have hr := (It.right_iff.1 h).2.1
  unfold rootB at hr
  cases L with
  | nil => cases hr
  | cons y l =>
    simp at hx
    subst hx
    simp at hr
    exact hr
theorem isSp_ok {L : List Ino} (h : isSp L = true) : okAll L := by
  obtain ⟨h1, h2, h3, _⟩ := isSp_iff.1 h
  have hn : ∀ e ∈ allEnts L, names L e.2.2.1 e.2.2.2 = true := fun e he => (ent_named h1 h3 he).1
  intro i x hx
  have hv := (cntB_iff h1).1 h3 ((i : Int), x.gen)
  rw [← nmv_cnt hn hx, start_val h1] at hv
  have hl : lkOf L (i : Int) = x.links := by
    unfold lkOf
    rw [show ((i : Int)).toNat = i by omega, hx, Option.getD_some]
  have hg0 : i = 0 → x.gen = gen0 L := fun h0 => by
    subst h0
    unfold gen0
    rw [hx, Option.getD_some]
  refine ⟨h2 x (List.mem_of_getElem? hx), fun hk e he => hn e (List.mem_flatMap.2 ⟨x, List.mem_of_getElem? hx, he⟩), fun hk => ?_, fun hk h0 => ?_, fun h0 => ?_⟩
  · rw [if_neg (fun he => by
      have : (i : Int) = 0 := congrArg Prod.fst he
      have hi : i = 0 := by omega
      subst hi
      have := root_kind h1 hx
      omega), if_pos (names_iff.2 ⟨i, x, hx, rfl, rfl, by omega⟩), hl] at hv
    exact hv
  · rw [if_neg (fun he => by
      have : (i : Int) = 0 := congrArg Prod.fst he
      omega), if_pos (names_iff.2 ⟨i, x, hx, rfl, rfl, by omega⟩), hl, dir_links h1 hx hk] at hv
    exact hv
  · rw [if_pos (by rw [hg0 h0, h0]; rfl)] at hv
    exact hv
theorem ok_named {L : List Ino} (h : It.right L = true) (ho : okAll L) : ∀ e ∈ allEnts L, names L e.2.2.1 e.2.2.2 = true := fun e he => by
  obtain ⟨p, x, hx, hex⟩ := all_mem he
  exact (ho p x hx).2.1 (ents_dir h hx hex) e hex
theorem ok_folds {L : List Ino} (ho : okAll L) : folds L := fun x hx => by
  obtain ⟨p, hp⟩ := List.mem_iff_getElem?.1 hx
  exact (ho p x hp).1
theorem ok_cntB {L : List Ino} (h : It.right L = true) (ho : okAll L) : cntB L = true := by
  have hn := ok_named h ho
  refine (cntB_iff h).2 fun g => ?_
  rw [start_val h]
  have hlen := right_len h
  have h0x : L[0]? = some L[0] := List.getElem?_eq_getElem (by omega)
  by_cases h0 : g = (0, gen0 L)
  · rw [if_pos h0]
    have h1 := (ho 0 _ h0x).2.2.2.2 rfl
    rw [nmv_cnt hn h0x] at h1
    have e : gen0 L = L[0].gen := by unfold gen0; rw [h0x, Option.getD_some]
    rw [h0, e]
    exact h1
  · rw [if_neg h0]
    by_cases h1 : names L g.1 g.2 = true
    · rw [if_pos h1]
      obtain ⟨i, x, hx, hno, hg, hk⟩ := names_iff.1 h1
      have eg : g = ((i : Int), x.gen) := Prod.ext hno hg.symm
      have hl : lkOf L g.1 = x.links := by
        unfold lkOf
        rw [hno, show ((i : Int)).toNat = i by omega, hx, Option.getD_some]
      rw [hl, eg, ← nmv_cnt hn hx]
      have hnum := (ho i x hx).2.2
      have hone := (It.right_iff.1 h).2.2 x (List.mem_of_getElem? hx)
      unfold one at hone
      simp only [Bool.and_eq_true] at hone
      by_cases hk2 : x.kind = 2
      · rw [dir_links h hx hk2]
        refine hnum.2.1 hk2 ?_
        by_cases hi : i = 0
        · exfalso
          subst hi
          refine h0 (eg.trans ?_)
          unfold gen0
          rw [hx, Option.getD_some]
          rfl
        · omega
      · refine hnum.1 ?_
        rcases At.right_iff.1 hone.2.1 with ⟨h3, _⟩ | ⟨_, _, ⟨h3, _⟩ | ⟨h3, _⟩⟩
        · exact (hk h3).elim
        · exact h3
        · exact (hk2 h3).elim
    · rw [if_neg h1]
      have : cnt L g = 0 := List.countP_eq_zero.2 fun e he hc => h1 (by
        have e2 : e.2.2 = g := by simpa using hc
        rw [← e2]
        exact hn e he)
      rw [this]
      rfl
theorem rch_anc {L : List Ino} (h : It.right L = true) {a : Nat} : ∀ (d c : Nat), Rch L d a c → dirAt L c = true → Anc L d a c
  | 0, c, hr, _ => hr
  | d + 1, c, hr, hd => by
    obtain ⟨p, hp, hpl, e, he, hec⟩ := hr
    have hx : L[p]? = some L[p] := List.getElem?_eq_getElem hpl
    have hem : e ∈ L[p].ents := by
      unfold entsAt at he
      rw [hx] at he
      exact he
    have hdp : dirAt L p = true := by
      unfold dirAt
      rw [hx]
      simp [ents_dir h hx hem]
    exact ⟨p, rch_anc h d p hp hdp, ⟨e, he, by simp [toNo, hec]⟩, hd⟩
theorem ents_lt {L : List Ino} {p : Nat} {e : En} (he : e ∈ entsAt L p) : p < L.length := by
  unfold entsAt at he
  split at he
  · rename_i x hx
    exact (List.getElem?_eq_some_iff.1 hx).1
  · cases he
theorem anc_rch {L : List Ino} {a : Nat} : ∀ (d c : Nat), Anc L d a c → Rch L d a c
  | 0, c, h => h
  | d + 1, c, h => by
    obtain ⟨p, hp, ⟨e, he, hc⟩, _⟩ := h
    exact ⟨p, anc_rch d p hp, ents_lt he, e, he, by simpa [toNo] using hc⟩
/-- All folders that are reached are below, and the other way round. -/
theorem full_reach {L : List Ino} (h : It.right L = true) (ht : Tree L) {f : Nat → Bool} (hs : Sound L 0 f) (hf : Full L 0 L.length f) : reachB L = true ↔ ∀ c, dirAt L c = true → f c = true := by
  rw [reachB_iff ht (right_len h).2]
  constructor
  · intro hr c hd
    obtain ⟨d, ha⟩ := hr c hd
    exact hf d (Nat.le_of_lt (anc_lt ht ha)) c (dirAt_lt hd) (anc_rch d c ha)
  · intro hr c hd
    obtain ⟨d, ha⟩ := hs c (dirAt_lt hd) (hr c hd)
    exact ⟨d, rch_anc h d c ha hd⟩
theorem isSp_of {L : List Ino} (h : It.right L = true) (ho : okAll L) {f : Nat → Bool} (hs : Sound L 0 f) (hf : Full L 0 L.length f) : isSp L = true ↔ ∀ c, dirAt L c = true → f c = true := by
  rw [isSp_iff, ← full_reach h (tree_of h (ok_folds ho) (ok_cntB h ho)) hs hf]
  exact ⟨fun h => h.2.2.2, fun hr => ⟨h, ok_folds ho, ok_cntB h ho, hr⟩⟩
theorem isSp_not {L : List Ino} (h : ¬ okAll L) : isSp L = false := by
  cases hs : isSp L with
  | false => rfl
  | true => exact (h (isSp_ok hs)).elim
end Sp
end Go.Proofs.Ytacghcoikekfeaa
/- RRt -/
namespace Go.Proofs.Ytacghcoikekfeaa
open Go.ChangeShapes Go.WideShapes Go.ChangeAt Go.RowKit Go.Deep It
set_option maxRecDepth 100000
end Go.Proofs.Ytacghcoikekfeaa
/- SIns -/
namespace Go.Proofs.Ytacghcoikekfeaa
open It
set_option maxRecDepth 100000
theorem Sp.chk_zero {L : List Ino} (h : Sp.chk Sp.isSp L = 0) : Sp.isSp L = true := by
  unfold Sp.chk at h
  split at h
  · assumption
  · cases h
theorem Sp.ents_isdir {L : List Ino} (h : It.right L = true) {p : Nat} {e : Sp.En} (he : e ∈ Sp.entsAt L p) : Sp.dirAt L p = true := by
  have hpl := Sp.ents_lt he
  have hx : L[p]? = some L[p] := List.getElem?_eq_getElem hpl
  have hem : e ∈ L[p].ents := by
    unfold Sp.entsAt at he
    rw [hx] at he
    exact he
  unfold Sp.dirAt
  rw [hx]
  simp [Sp.ents_dir h hx hem]
theorem Sp.insB_iff {L : List Ino} (hs : Sp.isSp L = true) {no c : Nat} (hdn : Sp.dirAt L no = true) : Sp.insB L no c = true ↔ ∃ d, Sp.Anc L d no c := by
  obtain ⟨h1, -, -, h4⟩ := Sp.isSp_iff.1 hs
  have ht := Sp.isSp_tree hs
  have hl := (Sp.right_len h1).2
  unfold Sp.insB
  rw [show ((no : Int)).toNat = no by omega, List.any_eq_true]
  constructor
  · rintro ⟨z, hz, he⟩
    obtain ⟨d, ha⟩ := Sp.walk_mem ht _ _ _ z hz
    refine ⟨d, ?_⟩
    have : z.1 = c := by have := beq_iff_eq.1 he; omega
    rwa [this] at ha
  · rintro ⟨d, ha⟩
    obtain ⟨m, hm⟩ := (Sp.reachB_iff ht hl).1 h4 no hdn
    have := Sp.anc_lt ht (Sp.anc_trans hm d c ha)
    obtain ⟨z, hz, he⟩ := Sp.walk_has ht 24 no ⟨#[]⟩ d c ha (by omega)
    exact ⟨z, hz, by rw [he]; simp⟩
theorem ins_means : Sp.InsMeans (Sp.chk Sp.isSp) Sp.insB := by
  intro L no c hc hdc hno
  have hs := Sp.chk_zero hc
  obtain ⟨h1, -, -, h4⟩ := Sp.isSp_iff.1 hs
  have ht := Sp.isSp_tree hs
  have hl := (Sp.right_len h1).2
  refine ⟨fun hdn f hsd hfl => ?_, fun hdn => ?_⟩
  · cases hi : Sp.insB L no c with
    | true =>
      obtain ⟨d, ha⟩ := (Sp.insB_iff hs hdn).1 hi
      obtain ⟨m, hm⟩ := (Sp.reachB_iff ht hl).1 h4 no hdn
      have := Sp.anc_lt ht (Sp.anc_trans hm d c ha)
      exact hfl d (by omega) c (Sp.dirAt_lt hdc) (Sp.anc_rch d c ha)
    | false =>
      cases hf : f c with
      | false => rfl
      | true =>
        obtain ⟨d, hr⟩ := hsd c (Sp.dirAt_lt hdc) hf
        rw [(Sp.insB_iff hs hdn).2 ⟨d, Sp.rch_anc h1 d c hr hdc⟩] at hi
        cases hi
  · cases hi : Sp.insB L no c with
    | false => rfl
    | true =>
      exfalso
      unfold Sp.insB at hi
      rw [show ((no : Int)).toNat = no by omega, List.any_eq_true] at hi
      obtain ⟨z, hz, he⟩ := hi
      obtain ⟨d, ha⟩ := Sp.walk_mem ht _ _ _ z hz
      have hzc : z.1 = c := by have := beq_iff_eq.1 he; omega
      rw [hzc] at ha
      cases d with
      | zero =>
        have : no = c := ha
        rw [this, hdc] at hdn
        cases hdn
      | succ d =>
        rw [Nat.add_comm] at ha
        obtain ⟨q, h5, -⟩ := Sp.anc_split d c ha
        obtain ⟨p, hp, ⟨e, hem, -⟩, -⟩ := h5
        have : no = p := hp
        rw [← this] at hem
        rw [Sp.ents_isdir h1 hem] at hdn
        cases hdn
/-- The reference's, as they are asked. -/
theorem rtMeans : Sp.RtMeans Sp.isSp := fun _ h => (Sp.isSp_iff.1 h).1
end Go.Proofs.Ytacghcoikekfeaa
/- FPlainH -/
namespace Go.Proofs.Ytacghcoikekfeaa
set_option maxRecDepth 100000
namespace Fo
theorem called_not {s : ByteArray} {x : Ent} : called s x = false ↔ x.1 ≠ s := by
  rw [← Bool.not_eq_true, called_iff]
def okE (next : Int) (x : Ent) : Prop := Nm.ok x.1 ∧ (1 ≤ x.2.1 ∧ x.2.1 ≤ next) ∧ Ho x.2.2.1 x.2.2.2
theorem right_iff {l : List Ent} {next : Int} : Right l next ↔ (0 ≤ next ∧ next ≤ 1099511627776) ∧ (∀ x ∈ l, okE next x) ∧ l.Pairwise (fun a b => a.2.1 < b.2.1) ∧ apart l := by
  constructor
  · intro h
    refine ⟨h.1, fun x hx => ?_, ?_, h.2.2⟩
    · obtain ⟨i, hi⟩ := List.mem_iff_getElem?.1 hx
      have hl := (List.getElem?_eq_some_iff.1 hi).1
      have hg := h.2.1 i hl x hi
      have hb := lastC_bd (k := i) (fun j hj => h.2.1 j (by omega)) (by omega) h.1.1
      exact ⟨hg.1, ⟨by omega, hg.2.1.2⟩, hg.2.2⟩
    · rw [List.pairwise_iff_getElem]
      intro i j hi hj hij
      exact rising h j i _ _ hij (List.getElem?_eq_getElem hi) (List.getElem?_eq_getElem hj)
  · rintro ⟨h1, h2, h3, h4⟩
    refine ⟨h1, fun i hi x hx => ?_, h4⟩
    have hm := h2 x (List.mem_of_getElem? hx)
    refine ⟨hm.1, ⟨?_, hm.2.1.2⟩, hm.2.2⟩
    cases i with
    | zero =>
      have := hm.2.1.1
      simpa [lastC] using this
    | succ i =>
      have hy : l[i]? = some (l[i]'(by omega)) := List.getElem?_eq_getElem _
      rw [lastC_succ hy]
      have h5 := List.pairwise_iff_getElem.1 h3 i (i + 1) (by omega) hi (by omega)
      have h6 := (List.getElem?_eq_some_iff.1 hx).2
      rw [h6] at h5
      omega
theorem okE_mono {next next' : Int} {x : Ent} (h : okE next x) (hn : next ≤ next') : okE next' x := ⟨h.1, ⟨h.2.1.1, by have := h.2.1.2; omega⟩, h.2.2⟩
theorem right_add {l : List Ent} {next : Int} {s : ByteArray} {no gen : Int} (h : Right l next) (hs : Nm.ok s) (ho : Ho no gen) (ha : at' (called s) l = -1) (hn : next < 1099511627776) : Right (l ++ [(s, next + 1, no, gen)]) (next + 1) := by
  obtain ⟨h1, h2, h3, h4⟩ := right_iff.1 h
  have hno : ∀ x ∈ l, x.1 ≠ s := by
    rcases at_or (called s) l with ⟨-, hall⟩ | ⟨k, x, ht, -, -, -⟩
    · exact fun x hx => called_not.1 (hall x hx)
    · rw [ha] at ht
      omega
  refine right_iff.2 ⟨⟨by omega, by omega⟩, fun x hx => ?_, ?_, ?_⟩
  · rcases List.mem_append.1 hx with hx | hx
    · exact okE_mono (h2 x hx) (by omega)
    · simp at hx
      subst hx
      exact ⟨hs, ⟨by simp; omega, by simp⟩, ho⟩
  · rw [List.pairwise_append]
    refine ⟨h3, by simp, fun a ha b hb => ?_⟩
    simp at hb
    subst hb
    have := (h2 a ha).2.1.2
    simp
    omega
  · unfold apart at h4 ⊢
    rw [List.map_append, List.nodup_append]
    refine ⟨h4, by simp, fun a hma b hb => ?_⟩
    simp at hb
    subst hb
    obtain ⟨x, hx, rfl⟩ := List.mem_map.1 hma
    exact hno x hx
theorem right_cut {l : List Ent} {next : Int} (h : Right l next) (k : Nat) : Right (l.eraseIdx k) next := by
  obtain ⟨h1, h2, h3, h4⟩ := right_iff.1 h
  have hsub := List.eraseIdx_sublist l k
  refine right_iff.2 ⟨h1, fun x hx => h2 x (hsub.mem hx), h3.sublist hsub, ?_⟩
  unfold apart at h4 ⊢
  exact (hsub.map _).nodup h4
/-- What is there is found. -/
theorem found_at {l : List Ent} {next : Int} (h : Right l next) {i : Nat} {x : Ent} (hx : l[i]? = some x) : findErr l next x.1 = 0 ∧ found l next x.1 = x ∧ at' (called x.1) l = i := by
  obtain ⟨h1, h2, h3, h4⟩ := right_iff.1 h
  have hok := (h2 x (List.mem_of_getElem? hx)).1
  have hat : at' (called x.1) l = i := at_hit hx (called_iff.2 rfl) fun j y hj hy => called_not.2 fun he => by
    unfold apart at h4
    have hi := (List.getElem?_eq_some_iff.1 hx).1
    have hjl := (List.getElem?_eq_some_iff.1 hy).1
    have h5 := List.pairwise_iff_getElem.1 h4 j i (by simpa using hjl) (by simpa using hi) hj
    simp only [List.getElem_map] at h5
    rw [(List.getElem?_eq_some_iff.1 hx).2, (List.getElem?_eq_some_iff.1 hy).2] at h5
    exact h5 he
  have ha := ask_zero h hok
  have := findErr_hit ha hat
  exact ⟨this.1, found_hit this.1 this.2 hx, hat⟩
theorem find_has {l : List Ent} {next : Int} {s : ByteArray} {k : Nat} (h : Right l next) (ha : at' (called s) l = k) : findErr l next s = 0 ∧ plc l next s = k := by
  rcases at_or (called s) l with ⟨ht, -⟩ | ⟨k', x, ht, hx, hc, -⟩
  · rw [ha] at ht
    omega
  · have hs := called_iff.1 hc
    obtain ⟨-, h2, -, -⟩ := right_iff.1 h
    have hok := (h2 x (List.mem_of_getElem? hx)).1
    rw [hs] at hok
    exact findErr_hit (ask_zero h hok) ha
theorem find_not {l : List Ent} {next : Int} {s : ByteArray} (ha : at' (called s) l = -1) : findErr l next s ≠ 0 := by
  rcases ask_or l next s with ⟨hk, -, -⟩ | ⟨hk, -⟩ | ⟨hk, -, -⟩
  · rw [(findErr_miss hk ha).1]
    decide
  · rw [(findErr_ask hk (by decide)).1]
    decide
  · rw [(findErr_ask hk (by decide)).1]
    decide
def adds (what : Int) : Bool := what == 0 || what == 1
/-- A folder behind a step. -/
noncomputable def stp (l : List Ent) (next : Int) (what : Int) (s : ByteArray) : List Ent × Int :=
  if adds what = true then (if addErr l next s 1 1 = 0 then (l ++ [(s, next + 1, 1, 1)], next + 1) else (l, next)) else (if findErr l next s = 0 then (l.eraseIdx (plc l next s).toNat, next) else (l, next))
theorem add_iff {l : List Ent} {next : Int} {s : ByteArray} (h : Right l next) (hn : next < 1099511627776) : addErr l next s 1 1 = 0 ↔ Nm.ok s ∧ at' (called s) l = -1 := by
  constructor
  · intro h0
    have := add_zero h0
    exact ⟨this.2.1, this.2.2.2.1⟩
  · rintro ⟨h1, h2⟩
    exact add_ok (ask_zero h h1) ho_one h2 (by omega)
theorem stp_right {l : List Ent} {next what : Int} {s : ByteArray} (h : Right l next) (hn : next < 1099511627776) : Right (stp l next what s).1 (stp l next what s).2 ∧ next ≤ (stp l next what s).2 ∧ (stp l next what s).2 ≤ next + 1 ∧ (stp l next what s).1.length ≤ l.length + 1 := by
  unfold stp
  by_cases ha : adds what = true
  · rw [if_pos ha]
    by_cases h0 : addErr l next s 1 1 = 0
    · rw [if_pos h0]
      have := (add_iff h hn).1 h0
      exact ⟨right_add h this.1 ho_one this.2 hn, by simp; omega, by simp, by simp⟩
    · rw [if_neg h0]
      exact ⟨h, by simp, by simp; omega, by simp⟩
  · rw [if_neg ha]
    by_cases h0 : findErr l next s = 0
    · rw [if_pos h0]
      exact ⟨right_cut h _, by simp, by simp; omega, by
        have := List.length_eraseIdx_le l (plc l next s).toNat
        simp only
        omega⟩
    · rw [if_neg h0]
      exact ⟨h, by simp, by simp; omega, by simp⟩
end Fo
end Go.Proofs.Ytacghcoikekfeaa
/- Sta -/
namespace Go.Proofs.Ytacghcoikekfeaa
open It
set_option maxRecDepth 100000
namespace Sp
theorem cset (q : En → Bool) : ∀ (L : List Ino) (k : Nat) (x y : Ino), L[k]? = some x → (allEnts (L.set k y)).countP q + x.ents.countP q = (allEnts L).countP q + y.ents.countP q
  | [], k, x, y, h => by simp at h
  | z :: L, 0, x, y, h => by
    simp at h
    subst h
    simp only [allEnts, List.set_cons_zero, List.flatMap_cons, List.countP_append]
    omega
  | z :: L, k + 1, x, y, h => by
    have ih := cset q L k x y (by simpa using h)
    unfold allEnts at ih ⊢
    rw [List.set_cons_succ, List.flatMap_cons, List.flatMap_cons, List.countP_append, List.countP_append]
    omega
theorem cerase (q : En → Bool) : ∀ (l : List En) (j : Nat) (e : En), l[j]? = some e → (l.eraseIdx j).countP q + (if q e = true then 1 else 0) = l.countP q
  | [], j, e, h => by simp at h
  | z :: l, 0, e, h => by
    simp at h
    subst h
    rw [List.eraseIdx_cons_zero, List.countP_cons]
  | z :: l, j + 1, e, h => by
    have ih := cerase q l j e (by simpa using h)
    rw [List.eraseIdx_cons_succ, List.countP_cons, List.countP_cons]
    omega
theorem erase_sup {l : List En} {j : Nat} {e : En} (h : l[j]? = some e) : ∀ x ∈ l, x ∈ l.eraseIdx j ∨ x = e := by
  intro x hx
  obtain ⟨i, hi⟩ := List.mem_iff_getElem?.1 hx
  by_cases hij : i = j
  · subst hij
    rw [h] at hi
    exact .inr (Option.some.inj hi).symm
  · left
    rcases Nat.lt_or_gt_of_ne hij with h1 | h1
    · exact List.mem_of_getElem? (i := i) (by rw [List.getElem?_eraseIdx, if_pos h1]; exact hi)
    · refine List.mem_of_getElem? (i := i - 1) ?_
      rw [List.getElem?_eraseIdx, if_neg (by omega), show i - 1 + 1 = i by omega]
      exact hi
theorem isSp_mk {L : List Ino} (hr : It.right L = true) (ho : okAll L) (ha : ∀ c, dirAt L c = true → ∃ d, Anc L d 0 c) : isSp L = true :=
  isSp_iff.2 ⟨hr, ok_folds ho, ok_cntB hr ho, (reachB_iff (tree_of hr (ok_folds ho) (ok_cntB hr ho)) (right_len hr).2).2 ha⟩
theorem isSp_reach {L : List Ino} (hs : isSp L = true) {c : Nat} (hc : dirAt L c = true) : ∃ d, Anc L d 0 c := by
  obtain ⟨h1, _, _, h4⟩ := isSp_iff.1 hs
  exact (reachB_iff (isSp_tree hs) (right_len h1).2).1 h4 c hc
theorem dirAt_iff {L : List Ino} {c : Nat} : dirAt L c = true ↔ ∃ x, L[c]? = some x ∧ x.kind = 2 := by
  unfold dirAt
  cases h : L[c]? with
  | none => simp
  | some x => simp
theorem mem_entsAt {L : List Ino} {p : Nat} {e : En} : e ∈ entsAt L p ↔ ∃ x, L[p]? = some x ∧ e ∈ x.ents := by
  unfold entsAt
  cases h : L[p]? with
  | none => simp
  | some x => simp
theorem child_iff {L : List Ino} {p c : Nat} : Child L p c ↔ (∃ x, L[p]? = some x ∧ ∃ e ∈ x.ents, e.2.2.1 = (c : Int)) ∧ dirAt L c = true := by
  unfold Child
  refine and_congr ⟨?_, ?_⟩ Iff.rfl
  · rintro ⟨e, he, hc⟩
    obtain ⟨x, hx, hex⟩ := mem_entsAt.1 he
    exact ⟨x, hx, e, hex, by simpa [toNo] using hc⟩
  · rintro ⟨x, hx, e, he, hc⟩
    exact ⟨e, mem_entsAt.2 ⟨x, hx, he⟩, by simp [toNo, hc]⟩
theorem anc_mono {L L' : List Ino} (h : ∀ p c, Child L p c → Child L' p c) : ∀ (d a c : Nat), Anc L d a c → Anc L' d a c
  | 0, _, _, ha => ha
  | d + 1, a, c, ha => by
    obtain ⟨p, h1, h2⟩ := ha
    exact ⟨p, anc_mono h d a p h1, h p c h2⟩
theorem get_two {L : List Ino} {kc kt : Nat} {xc xt y z : Ino} (hne : kc ≠ kt) (hc : L[kc]? = some xc) (ht : L[kt]? = some xt) (i : Nat) : ((L.set kc y).set kt z)[i]? = if i = kt then some z else if i = kc then some y else L[i]? := by
  have hcl := (List.getElem?_eq_some_iff.1 hc).1
  have htl := (List.getElem?_eq_some_iff.1 ht).1
  rw [List.getElem?_set]
  by_cases h1 : i = kt
  · subst h1
    simp [htl]
  · rw [if_neg (fun h => h1 h.symm), if_neg h1, List.getElem?_set]
    by_cases h2 : i = kc
    · subst h2
      simp [hcl]
    · rw [if_neg (fun h => h2 h.symm), if_neg h2]
theorem names_to {L L' : List Ino} {a b : Int} (h : names L a b = true) (hK : ∀ (k : Nat) x, L[k]? = some x → a = k → x.kind ≠ 0 → ∃ x', L'[k]? = some x' ∧ x'.gen = x.gen ∧ x'.kind = x.kind) : names L' a b = true := by
  obtain ⟨i, x, hx, hno, hg, hk⟩ := names_iff.1 h
  obtain ⟨x', h1, h2, h3⟩ := hK i x hx hno hk
  exact names_iff.2 ⟨i, x', h1, hno, by rw [h2]; exact hg, by rw [h3]; exact hk⟩
theorem all_of {L : List Ino} {p : Nat} {x : Ino} {e : En} (h : L[p]? = some x) (he : e ∈ x.ents) : e ∈ allEnts L := List.mem_flatMap.2 ⟨x, List.mem_of_getElem? h, he⟩
/-- A file has another name, or one less. -/
theorem stays_file {L : List Ino} {kc kt : Nat} {xc xt : Ino} {es : List Ent} {nx st n : Int} (hs : isSp L = true) (hc : L[kc]? = some xc) (hk : xc.kind = 2) (ht : L[kt]? = some xt) (hkt : xt.kind = 1) (hst : 0 ≤ st ∧ st ≤ 1099511627776)
    (hR : Fo.Right es nx) (hlen : es.length ≤ 1048576) (hlk : 0 ≤ xt.links + n ∧ xt.links + n ≤ 64) (hcount : ∀ i : Int, (es.countP (toI i) : Int) = xc.ents.countP (toI i) + (if i = kt then n else 0))
    (hmem : ∀ e ∈ es, e ∈ xc.ents ∨ e.2.2 = ((kt : Int), xt.gen)) (hsup : ∀ e ∈ xc.ents, e ∈ es ∨ e.2.2.1 = kt) : isSp ((L.set kc (filled xc es nx st)).set kt (linked xt n st)) = true := by
  have h1 := (isSp_iff.1 hs).1
  have ho := isSp_ok hs
  have hne : kc ≠ kt := by
    rintro rfl
    rw [hc] at ht
    cases ht
    omega
  have hone := (It.right_iff.1 h1).2.2
  obtain ⟨L', hL'⟩ : ∃ L', L' = (L.set kc (filled xc es nx st)).set kt (linked xt n st) := ⟨_, rfl⟩
  have hg : ∀ i, L'[i]? = if i = kt then some (linked xt n st) else if i = kc then some (filled xc es nx st) else L[i]? := by
    rw [hL']
    exact get_two hne hc ht
  have ht1 : (L.set kc (filled xc es nx st))[kt]? = some xt := by rw [List.getElem?_set_ne hne]; exact ht
  have hr : It.right L' = true := by
    rw [hL']
    have r1 := right_set h1 hc (one_filled (hone xc (List.mem_of_getElem? hc)) hk hst hlen (nx := nx)) rfl
    exact right_set r1 ht1 (one_linked (hone xt (List.mem_of_getElem? ht)) hkt hst hlk) rfl
  have hn : ∀ i : Int, (nmv L' i : Int) = nmv L i + (if i = kt then n else 0) := by
    intro i
    have c1 := cset (toI i) L kc xc (filled xc es nx st) hc
    have c2 := cset (toI i) (L.set kc (filled xc es nx st)) kt xt (linked xt n st) ht1
    have c3 := hcount i
    have e1 : (filled xc es nx st).ents = es := rfl
    have e2 : (linked xt n st).ents = xt.ents := rfl
    rw [e1] at c1
    rw [e2] at c2
    rw [hL']
    unfold nmv
    omega
  rw [← hL']
  have hkeep : ∀ (k : Nat) x, L[k]? = some x → ∃ x', L'[k]? = some x' ∧ x'.gen = x.gen ∧ x'.kind = x.kind := by
    intro k x hx
    rw [hg]
    by_cases e1 : k = kt
    · subst e1
      rw [ht] at hx
      cases hx
      exact ⟨_, if_pos rfl, rfl, rfl⟩
    · rw [if_neg e1]
      by_cases e2 : k = kc
      · subst e2
        rw [hc] at hx
        cases hx
        exact ⟨_, if_pos rfl, rfl, rfl⟩
      · rw [if_neg e2]
        exact ⟨x, hx, rfl, rfl⟩
  have hnm : ∀ a b, names L a b = true → names L' a b = true := fun a b h => names_to h fun k x hx _ _ => hkeep k x hx
  have hnt : names L kt xt.gen = true := names_iff.2 ⟨kt, xt, ht, rfl, rfl, by omega⟩
  have hall : ∀ e ∈ allEnts L, names L e.2.2.1 e.2.2.2 = true := ok_named h1 ho
  have hk0 : kt ≠ 0 := by
    rintro rfl
    have := root_kind h1 ht
    omega
  refine isSp_mk hr (fun i x' hx' => ?_) fun c hd => ?_
  · rw [hg] at hx'
    have hni := hn (i : Int)
    split at hx'
    · rename_i e1
      cases hx'
      subst e1
      obtain ⟨_, _, n1, n2, n3⟩ := ho i xt ht
      rw [if_pos rfl] at hni
      refine ⟨fun h => ?_, fun h => ?_, fun h => ?_, fun h => ?_, fun h => absurd h hk0⟩
      · have h2 : xt.kind = 2 := h
        omega
      · have h2 : xt.kind = 2 := h
        omega
      · have h3 := n1 hkt
        show (nmv L' i : Int) = xt.links + n
        omega
      · have h2 : xt.kind = 2 := h
        omega
    · rename_i e1
      rw [if_neg (by omega)] at hni
      split at hx'
      · rename_i e2
        cases hx'
        subst e2
        obtain ⟨_, _, n1, n2, n3⟩ := ho i xc hc
        refine ⟨fun _ => ⟨hR, rfl⟩, fun _ e he => ?_, fun h => ?_, fun h h0 => ?_, fun h => ?_⟩
        · rcases hmem e he with h | h
          · exact hnm _ _ (hall e (all_of hc h))
          · rw [h]
            exact hnm _ _ hnt
        · have h2 : xc.kind = 1 := h
          omega
        · have := n2 hk h0
          omega
        · have := n3 h
          omega
      · obtain ⟨o1, o2, n1, n2, n3⟩ := ho i x' hx'
        refine ⟨o1, fun h e he => hnm _ _ (o2 h e he), fun h => ?_, fun h h0 => ?_, fun h => ?_⟩
        · have := n1 h
          omega
        · have := n2 h h0
          omega
        · have := n3 h
          omega
  · have hdl : ∀ c, dirAt L' c = true → dirAt L c = true := fun c hd => by
      obtain ⟨x', hx', hk'⟩ := dirAt_iff.1 hd
      rw [hg] at hx'
      split at hx'
      · cases hx'
        have h2 : xt.kind = 2 := hk'
        omega
      · split at hx'
        · rename_i e2
          subst e2
          exact dirAt_iff.2 ⟨xc, hc, hk⟩
        · exact dirAt_iff.2 ⟨x', hx', hk'⟩
    have hdr : ∀ c, dirAt L c = true → dirAt L' c = true := fun c hd => by
      obtain ⟨x, hx, hkx⟩ := dirAt_iff.1 hd
      obtain ⟨x', h1, _, h3⟩ := hkeep c x hx
      exact dirAt_iff.2 ⟨x', h1, by rw [h3]; exact hkx⟩
    obtain ⟨d, ha⟩ := isSp_reach hs (hdl c hd)
    refine ⟨d, anc_mono (fun p c hpc => ?_) d 0 c ha⟩
    obtain ⟨⟨x, hx, e, he, hec⟩, hdc⟩ := child_iff.1 hpc
    refine child_iff.2 ⟨?_, hdr c hdc⟩
    rw [hg]
    by_cases e1 : p = kt
    · subst e1
      rw [ht] at hx
      cases hx
      exact ⟨_, if_pos rfl, e, he, hec⟩
    · rw [if_neg e1]
      by_cases e2 : p = kc
      · subst e2
        rw [hc] at hx
        cases hx
        rcases hsup e he with h | h
        · exact ⟨_, if_pos rfl, e, h, hec⟩
        · exfalso
          obtain ⟨x, hx, hkx⟩ := dirAt_iff.1 hdc
          have : c = kt := by omega
          subst this
          rw [ht] at hx
          cases hx
          omega
      · rw [if_neg e2]
        exact ⟨x, hx, e, he, hec⟩
/-- A folder without entries is gone. -/
theorem stays_rm {L : List Ino} {kc kt : Nat} {xc xt : Ino} {es : List Ent} {st : Int} (hs : isSp L = true) (hc : L[kc]? = some xc) (hk : xc.kind = 2) (ht : L[kt]? = some xt) (hkt : xt.kind = 2) (hte : xt.ents = []) (h0 : kt ≠ 0) (hne : kc ≠ kt) (hst : 0 ≤ st ∧ st ≤ 1099511627776)
    (hR : Fo.Right es xc.next) (hlen : es.length ≤ 1048576) (hcount : ∀ i : Int, (es.countP (toI i) : Int) = xc.ents.countP (toI i) + (if i = kt then -1 else 0))
    (hmem : ∀ e ∈ es, e ∈ xc.ents) (hsup : ∀ e ∈ xc.ents, e ∈ es ∨ e.2.2.1 = kt) : isSp ((L.set kc (filled xc es xc.next st)).set kt (gone xt.gen)) = true := by
  have h1 := (isSp_iff.1 hs).1
  have ho := isSp_ok hs
  have hone := (It.right_iff.1 h1).2.2
  obtain ⟨L', hL'⟩ : ∃ L', L' = (L.set kc (filled xc es xc.next st)).set kt (gone xt.gen) := ⟨_, rfl⟩
  have hg : ∀ i, L'[i]? = if i = kt then some (gone xt.gen) else if i = kc then some (filled xc es xc.next st) else L[i]? := by
    rw [hL']
    exact get_two hne hc ht
  have ht1 : (L.set kc (filled xc es xc.next st))[kt]? = some xt := by rw [List.getElem?_set_ne hne]; exact ht
  have htl := (List.getElem?_eq_some_iff.1 ht1).1
  have hlen24 := right_len h1
  have hr : It.right L' = true := by
    rw [hL']
    have r1 := right_set h1 hc (one_filled (hone xc (List.mem_of_getElem? hc)) hk hst hlen (nx := xc.next)) rfl
    have r2 := right_put (no := kt) (x := gone xt.gen) r1 (Nat.le_of_lt htl) (by rw [List.length_set] at htl; omega) (by omega) (one_gone (one_bd (hone xt (List.mem_of_getElem? ht))))
    rwa [put_set ht1] at r2
  have hn : ∀ i : Int, (nmv L' i : Int) = nmv L i + (if i = kt then -1 else 0) := by
    intro i
    have c1 := cset (toI i) L kc xc (filled xc es xc.next st) hc
    have c2 := cset (toI i) (L.set kc (filled xc es xc.next st)) kt xt (gone xt.gen) ht1
    have c3 := hcount i
    have e1 : (filled xc es xc.next st).ents = es := rfl
    have e2 : (gone xt.gen).ents = [] := rfl
    rw [e1] at c1
    rw [e2, hte] at c2
    rw [hL']
    unfold nmv
    omega
  rw [← hL']
  have hkeep : ∀ (k : Nat) x, L[k]? = some x → k ≠ kt → ∃ x', L'[k]? = some x' ∧ x'.gen = x.gen ∧ x'.kind = x.kind := by
    intro k x hx e1
    rw [hg, if_neg e1]
    by_cases e2 : k = kc
    · subst e2
      rw [hc] at hx
      cases hx
      exact ⟨_, if_pos rfl, rfl, rfl⟩
    · rw [if_neg e2]
      exact ⟨x, hx, rfl, rfl⟩
  have hz : (nmv L' (kt : Int) : Int) = 0 := by
    have := (ho kt xt ht).2.2.2.1 hkt (by omega)
    have h2 := hn (kt : Int)
    rw [if_pos rfl] at h2
    omega
  have hall : ∀ e ∈ allEnts L, names L e.2.2.1 e.2.2.2 = true := ok_named h1 ho
  have hnm : ∀ e ∈ allEnts L', e ∈ allEnts L → names L' e.2.2.1 e.2.2.2 = true := fun e he' he => names_to (hall e he) fun k x hx hek _ => hkeep k x hx (by
    rintro rfl
    have : nmv L' (k : Int) = 0 := by omega
    unfold nmv at this
    exact List.countP_eq_zero.1 this e he' (by simp [toI, hek]))
  refine isSp_mk hr (fun i x' hx' => ?_) fun c hd => ?_
  · have hx'0 := hx'
    rw [hg] at hx'
    have hni := hn (i : Int)
    split at hx'
    · rename_i e1
      cases hx'
      subst e1
      refine ⟨fun h => ?_, fun h => ?_, fun h => ?_, fun h => ?_, fun h => absurd h h0⟩
      all_goals
        first
          | (have h2 : (0 : Int) = 2 := h
             omega)
          | (have h2 : (0 : Int) = 1 := h
             omega)
    · rename_i e1
      rw [if_neg (by omega)] at hni
      split at hx'
      · rename_i e2
        cases hx'
        subst e2
        obtain ⟨_, _, n1, n2, n3⟩ := ho i xc hc
        refine ⟨fun _ => ⟨hR, rfl⟩, fun _ e he => hnm e (all_of hx'0 he) (all_of hc (hmem e he)), fun h => ?_, fun h h0 => ?_, fun h => ?_⟩
        · have h2 : xc.kind = 1 := h
          omega
        · have := n2 hk h0
          omega
        · have := n3 h
          omega
      · obtain ⟨o1, o2, n1, n2, n3⟩ := ho i x' hx'
        refine ⟨o1, fun h e he => hnm e (all_of hx'0 he) (all_of hx' he), fun h => ?_, fun h h0 => ?_, fun h => ?_⟩
        · have := n1 h
          omega
        · have := n2 h h0
          omega
        · have := n3 h
          omega
  · have hdl : ∀ c, dirAt L' c = true → dirAt L c = true ∧ c ≠ kt := fun c hd => by
      obtain ⟨x', hx', hk'⟩ := dirAt_iff.1 hd
      rw [hg] at hx'
      split at hx'
      · cases hx'
        have h2 : (0 : Int) = 2 := hk'
        omega
      · rename_i e1
        refine ⟨?_, e1⟩
        split at hx'
        · rename_i e2
          subst e2
          exact dirAt_iff.2 ⟨xc, hc, hk⟩
        · exact dirAt_iff.2 ⟨x', hx', hk'⟩
    have hdr : ∀ c, dirAt L c = true → c ≠ kt → dirAt L' c = true := fun c hd hct => by
      obtain ⟨x, hx, hkx⟩ := dirAt_iff.1 hd
      obtain ⟨x', h1, _, h3⟩ := hkeep c x hx hct
      exact dirAt_iff.2 ⟨x', h1, by rw [h3]; exact hkx⟩
    have key : ∀ (d c : Nat), Anc L d 0 c → c ≠ kt → Anc L' d 0 c := by
      intro d
      induction d with
      | zero => exact fun c ha _ => ha
      | succ d ih =>
        intro c ha hct
        obtain ⟨p, hp, hpc⟩ := ha
        obtain ⟨⟨x, hx, e, he, hec⟩, hdc⟩ := child_iff.1 hpc
        have hpt : p ≠ kt := by
          rintro rfl
          rw [ht] at hx
          cases hx
          rw [hte] at he
          cases he
        refine ⟨p, ih p hp hpt, child_iff.2 ⟨?_, hdr c hdc hct⟩⟩
        rw [hg, if_neg hpt]
        by_cases e2 : p = kc
        · subst e2
          rw [hc] at hx
          cases hx
          rcases hsup e he with h | h
          · exact ⟨_, if_pos rfl, e, h, hec⟩
          · exact absurd (show c = kt by omega) hct
        · rw [if_neg e2]
          exact ⟨x, hx, e, he, hec⟩
    obtain ⟨hdc, hct⟩ := hdl c hd
    obtain ⟨d, ha⟩ := isSp_reach hs hdc
    exact ⟨d, key d c ha hct⟩
/-- A name moves. -/
theorem stays_rn {L : List Ino} {kc kd kt : Nat} {xc x1 : Ino} {es es2 : List Ent} {nx st : Int} {e2 : Ent} (hs : isSp L = true) (hc : L[kc]? = some xc) (hk : xc.kind = 2) (hd1 : (L.set kc (filled xc es xc.next st))[kd]? = some x1) (hk1 : x1.kind = 2) (hst : 0 ≤ st ∧ st ≤ 1099511627776)
    (hR : Fo.Right es xc.next) (hlen : es.length ≤ 1048576) (hR2 : Fo.Right es2 nx) (hlen2 : es2.length ≤ 1048576) (he2 : es2 = x1.ents ++ [e2]) (hto : e2.2.2.1 = kt) (hnt : names L e2.2.2.1 e2.2.2.2 = true)
    (hcount : ∀ i : Int, (es.countP (toI i) : Int) = xc.ents.countP (toI i) + (if i = kt then -1 else 0)) (hmem : ∀ e ∈ es, e ∈ xc.ents) (hsup : ∀ e ∈ xc.ents, e ∈ es ∨ e.2.2.1 = kt) (hin : dirAt L kt = true → ¬ ∃ d, Anc L d kt kd) : isSp ((L.set kc (filled xc es xc.next st)).set kd (filled x1 es2 nx st)) = true := by
  have h1 := (isSp_iff.1 hs).1
  have ho := isSp_ok hs
  have htree := isSp_tree hs
  have hone := (It.right_iff.1 h1).2.2
  have hcl := (List.getElem?_eq_some_iff.1 hc).1
  have hdl1 := (List.getElem?_eq_some_iff.1 hd1).1
  obtain ⟨L1, hL1⟩ : ∃ L1, L1 = L.set kc (filled xc es xc.next st) := ⟨_, rfl⟩
  have r1 : It.right L1 = true := by
    rw [hL1]
    exact right_set h1 hc (one_filled (hone xc (List.mem_of_getElem? hc)) hk hst hlen (nx := xc.next)) rfl
  have hg1 : ∀ i, L1[i]? = if i = kc then some (filled xc es xc.next st) else L[i]? := by
    intro i
    rw [hL1, List.getElem?_set]
    by_cases h : i = kc
    · subst h
      simp [hcl]
    · rw [if_neg (fun e => h e.symm), if_neg h]
  rw [← hL1] at hd1 hdl1 ⊢
  obtain ⟨L', hL'⟩ : ∃ L', L' = L1.set kd (filled x1 es2 nx st) := ⟨_, rfl⟩
  have hg : ∀ i, L'[i]? = if i = kd then some (filled x1 es2 nx st) else L1[i]? := by
    intro i
    rw [hL', List.getElem?_set]
    by_cases h : i = kd
    · subst h
      simp [hdl1]
    · rw [if_neg (fun e => h e.symm), if_neg h]
  have hr : It.right L' = true := by
    rw [hL']
    exact right_set r1 hd1 (one_filled ((It.right_iff.1 r1).2.2 x1 (List.mem_of_getElem? hd1)) hk1 hst hlen2 (nx := nx)) rfl
  have hn : ∀ i : Int, nmv L' i = nmv L i := by
    intro i
    have c1 := cset (toI i) L kc xc (filled xc es xc.next st) hc
    have c2 := cset (toI i) L1 kd x1 (filled x1 es2 nx st) hd1
    have c3 := hcount i
    have e1 : (filled xc es xc.next st).ents = es := rfl
    have e2' : (filled x1 es2 nx st).ents = x1.ents ++ [e2] := he2
    rw [e1, ← hL1] at c1
    rw [e2', List.countP_append, List.countP_cons, List.countP_nil] at c2
    have c4 : (if toI i e2 = true then 1 else 0 : Nat) = if i = kt then 1 else 0 := by
      by_cases h : i = kt
      · rw [if_pos h, if_pos (by simp [toI, hto, h])]
      · rw [if_neg h, if_neg (by simp [toI, hto]; omega)]
    rw [c4] at c2
    rw [hL']
    unfold nmv
    split at c2 <;> split at c3 <;> omega
  rw [← hL']
  -- what was there, with its folder's entries
  have hold : ∀ (k : Nat) x, L[k]? = some x → ∃ x', L'[k]? = some x' ∧ x'.gen = x.gen ∧ x'.kind = x.kind ∧ x'.links = x.links ∧ ∀ e ∈ x.ents, e ∈ x'.ents ∨ e.2.2.1 = kt := by
    intro k x hx
    have m1 : ∃ y, L1[k]? = some y ∧ y.gen = x.gen ∧ y.kind = x.kind ∧ y.links = x.links ∧ ∀ e ∈ x.ents, e ∈ y.ents ∨ e.2.2.1 = kt := by
      rw [hg1]
      by_cases e1 : k = kc
      · subst e1
        rw [hc] at hx
        cases hx
        exact ⟨_, if_pos rfl, rfl, rfl, rfl, hsup⟩
      · rw [if_neg e1]
        exact ⟨x, hx, rfl, rfl, rfl, fun e he => .inl he⟩
    obtain ⟨y, hy, y1, y2, y3, y4⟩ := m1
    rw [hg]
    by_cases e1 : k = kd
    · subst e1
      rw [hd1] at hy
      cases hy
      refine ⟨_, if_pos rfl, y1, y2, y3, fun e he => ?_⟩
      rcases y4 e he with h | h
      · left
        show e ∈ es2
        rw [he2]
        exact List.mem_append_left _ h
      · exact .inr h
    · rw [if_neg e1]
      exact ⟨y, hy, y1, y2, y3, y4⟩
  have hnew : ∀ (k : Nat) x', L'[k]? = some x' → ∃ x, L[k]? = some x ∧ x'.gen = x.gen ∧ x'.kind = x.kind ∧ x'.links = x.links ∧ (fold x') ∧ ∀ e ∈ x'.ents, e ∈ x.ents ∨ e.2.2 = e2.2.2 := by
    have m1 : ∀ (k : Nat) y, L1[k]? = some y → ∃ x, L[k]? = some x ∧ y.gen = x.gen ∧ y.kind = x.kind ∧ y.links = x.links ∧ fold y ∧ ∀ e ∈ y.ents, e ∈ x.ents := by
      intro k y hy
      rw [hg1] at hy
      split at hy
      · rename_i e1
        subst e1
        cases hy
        exact ⟨xc, hc, rfl, rfl, rfl, fun _ => ⟨hR, rfl⟩, hmem⟩
      · exact ⟨y, hy, rfl, rfl, rfl, (ho k y hy).1, fun e he => he⟩
    intro k x' hx'
    rw [hg] at hx'
    split at hx'
    · rename_i e1
      subst e1
      cases hx'
      obtain ⟨x, hx, y1, y2, y3, _, y4⟩ := m1 k x1 hd1
      refine ⟨x, hx, y1, y2, y3, fun _ => ⟨hR2, rfl⟩, fun e he => ?_⟩
      have he' : e ∈ x1.ents ++ [e2] := by rw [← he2]; exact he
      rcases List.mem_append.1 he' with h | h
      · exact .inl (y4 e h)
      · exact .inr (by rw [List.mem_singleton.1 h])
    · obtain ⟨x, hx, y1, y2, y3, y4, y5⟩ := m1 k x' hx'
      exact ⟨x, hx, y1, y2, y3, y4, fun e he => .inl (y5 e he)⟩
  have hall : ∀ e ∈ allEnts L, names L e.2.2.1 e.2.2.2 = true := ok_named h1 ho
  have hnm : ∀ a b, names L a b = true → names L' a b = true := fun a b h => names_to h fun k x hx _ _ => by
    obtain ⟨x', a1, a2, a3, _⟩ := hold k x hx
    exact ⟨x', a1, a2, a3⟩
  refine isSp_mk hr (fun i x' hx' => ?_) fun c hd => ?_
  · obtain ⟨x, hx, y1, y2, y3, y4, y5⟩ := hnew i x' hx'
    obtain ⟨o1, o2, n1, n2, n3⟩ := ho i x hx
    refine ⟨y4, fun h e he => ?_, fun h => ?_, fun h h0 => ?_, fun h => ?_⟩
    · rcases y5 e he with h | h
      · exact hnm _ _ (hall e (all_of hx h))
      · rw [h]
        exact hnm _ _ hnt
    · rw [hn, n1 (by rw [← y2]; exact h), y3]
    · rw [hn]
      exact n2 (by rw [← y2]; exact h) h0
    · rw [hn]
      exact n3 h
  · have hdl : ∀ c, dirAt L' c = true → dirAt L c = true := fun c hd => by
      obtain ⟨x', hx', hk'⟩ := dirAt_iff.1 hd
      obtain ⟨x, hx, _, y2, _⟩ := hnew c x' hx'
      exact dirAt_iff.2 ⟨x, hx, by rw [← y2]; exact hk'⟩
    have hdr : ∀ c, dirAt L c = true → dirAt L' c = true := fun c hd => by
      obtain ⟨x, hx, hkx⟩ := dirAt_iff.1 hd
      obtain ⟨x', h1, _, h3, _⟩ := hold c x hx
      exact dirAt_iff.2 ⟨x', h1, by rw [h3]; exact hkx⟩
    have hch : ∀ p c, Child L p c → c ≠ kt → Child L' p c := fun p c hpc hct => by
      obtain ⟨⟨x, hx, e, he, hec⟩, hdc⟩ := child_iff.1 hpc
      obtain ⟨x', g1, _, _, _, g5⟩ := hold p x hx
      rcases g5 e he with h | h
      · exact child_iff.2 ⟨⟨x', g1, e, h, hec⟩, hdr c hdc⟩
      · exact absurd (show c = kt by omega) hct
    obtain ⟨d, ha⟩ := isSp_reach hs (hdl c hd)
    cases hdt : dirAt L kt with
    | false =>
      refine ⟨d, anc_mono (fun p c hpc => hch p c hpc ?_) d 0 c ha⟩
      rintro rfl
      rw [hpc.2] at hdt
      cases hdt
    | true =>
      have hno := hin hdt
      have k1 : ∀ (d c : Nat), Anc L d 0 c → (¬ ∃ m, Anc L m kt c) → Anc L' d 0 c := by
        intro d
        induction d with
        | zero => exact fun c ha _ => ha
        | succ d ih =>
          intro c ha hnc
          obtain ⟨p, hp, hpc⟩ := ha
          refine ⟨p, ih p hp fun ⟨m, hm⟩ => hnc ⟨m + 1, p, hm, hpc⟩, hch p c hpc ?_⟩
          rintro rfl
          exact hnc ⟨0, rfl⟩
      have hdd : dirAt L kd = true := hdl kd (dirAt_iff.2 ⟨filled x1 es2 nx st, by rw [hg, if_pos rfl], hk1⟩)
      obtain ⟨m, hm⟩ := isSp_reach hs hdd
      have hkd := k1 m kd hm hno
      have hct : Child L' kd kt := child_iff.2 ⟨⟨filled x1 es2 nx st, by rw [hg, if_pos rfl], e2, by show e2 ∈ es2; rw [he2]; simp, hto⟩, hdr kt hdt⟩
      obtain ⟨mt, hmt⟩ := isSp_reach hs hdt
      have k2 : ∀ (d c : Nat), Anc L d kt c → ∃ d', Anc L' d' 0 c := by
        intro d
        induction d with
        | zero =>
          intro c ha
          have e : kt = c := ha
          subst e
          exact ⟨m + 1, kd, hkd, hct⟩
        | succ d ih =>
          intro c ha
          have ha0 := ha
          obtain ⟨p, hp, hpc⟩ := ha
          obtain ⟨d', hd'⟩ := ih p hp
          refine ⟨d' + 1, p, hd', hch p c hpc ?_⟩
          rintro rfl
          have := anc_cycle htree hmt ha0
          omega
      by_cases hb : ∃ m, Anc L m kt c
      · obtain ⟨m', hm'⟩ := hb
        exact k2 m' c hm'
      · exact ⟨d, k1 d c ha hb⟩
/-- A name is made. -/
theorem stays_mk {L : List Ino} {kc nn : Nat} {xc : Ino} {es : List Ent} {nx st g kind : Int} {e2 : Ent} (hs : isSp L = true) (hc : L[kc]? = some xc) (hk : xc.kind = 2) (hkind : kind = 1 ∨ kind = 2) (hnn : (∃ x0, L[nn]? = some x0 ∧ x0.kind = 0) ∨ nn = L.length) (hn0 : 1 ≤ nn)
    (hr1 : It.right (put L nn (fresh g kind st)) = true) (hst : 0 ≤ st ∧ st ≤ 1099511627776) (hR : Fo.Right es nx) (hlen : es.length ≤ 1048576) (he : es = xc.ents ++ [e2]) (hto : e2.2.2 = ((nn : Int), g)) :
    isSp ((put L nn (fresh g kind st)).set kc (filled xc es nx st)) = true := by
  have h1 := (isSp_iff.1 hs).1
  have ho := isSp_ok hs
  have hnl : nn ≤ L.length := by
    rcases hnn with ⟨x0, hx0, _⟩ | h
    · exact Nat.le_of_lt (List.getElem?_eq_some_iff.1 hx0).1
    · omega
  have hne : kc ≠ nn := by
    rintro rfl
    rcases hnn with ⟨x0, hx0, hk0⟩ | h
    · rw [hc] at hx0
      cases hx0
      omega
    · have := (List.getElem?_eq_some_iff.1 hc).1
      omega
  have hg1 := put_at (x := fresh g kind st) hnl
  have hc1 : (put L nn (fresh g kind st))[kc]? = some xc := by rw [hg1, if_neg hne]; exact hc
  have hcl := (List.getElem?_eq_some_iff.1 hc1).1
  obtain ⟨L', hL'⟩ : ∃ L', L' = (put L nn (fresh g kind st)).set kc (filled xc es nx st) := ⟨_, rfl⟩
  have hg : ∀ i, L'[i]? = if i = kc then some (filled xc es nx st) else if i = nn then some (fresh g kind st) else L[i]? := by
    intro i
    rw [hL', List.getElem?_set]
    by_cases h : i = kc
    · subst h
      simp [hcl]
    · rw [if_neg (fun e => h e.symm), if_neg h]
      exact hg1 i
  have hr : It.right L' = true := by
    rw [hL']
    exact right_set hr1 hc1 (one_filled ((It.right_iff.1 hr1).2.2 xc (List.mem_of_getElem? hc1)) hk hst hlen (nx := nx)) rfl
  have hnone : ∀ x, L[nn]? = some x → x.kind = 0 := by
    intro x hx
    rcases hnn with ⟨x0, hx0, hk0⟩ | h
    · rw [hx] at hx0
      cases hx0
      exact hk0
    · rw [h] at hx
      simp at hx
  have hall : ∀ e ∈ allEnts L, names L e.2.2.1 e.2.2.2 = true := ok_named h1 ho
  have hz : nmv L (nn : Int) = 0 := by
    unfold nmv
    refine List.countP_eq_zero.2 fun e hem hq => ?_
    obtain ⟨i, x, hx, hno, _, hkx⟩ := names_iff.1 (hall e hem)
    have hq' : e.2.2.1 = (nn : Int) := by simpa [toI] using hq
    have : i = nn := by omega
    subst this
    exact hkx (hnone x hx)
  have hput : ∀ q, (allEnts (put L nn (fresh g kind st))).countP q = (allEnts L).countP q := by
    intro q
    unfold put
    split
    · rename_i hlt
      have hx0 : L[nn]? = some L[nn] := List.getElem?_eq_getElem hlt
      have c1 := cset q L nn _ (fresh g kind st) hx0
      have e0 : L[nn].ents = [] := by
        cases hl : L[nn].ents with
        | nil => rfl
        | cons e r =>
          have h2 := ents_dir h1 hx0 (e := e) (by rw [hl]; simp)
          have h3 := hnone _ hx0
          omega
      have e1 : (fresh g kind st).ents = [] := rfl
      rw [e0, e1] at c1
      omega
    · have e1 : (fresh g kind st).ents = [] := rfl
      simp [allEnts, e1]
  have hn : ∀ i : Int, nmv L' i = nmv L i + (if i = nn then 1 else 0) := by
    intro i
    have c2 := cset (toI i) (put L nn (fresh g kind st)) kc xc (filled xc es nx st) hc1
    have e2' : (filled xc es nx st).ents = xc.ents ++ [e2] := he
    rw [e2', List.countP_append, List.countP_cons, List.countP_nil, hput] at c2
    have c4 : (if toI i e2 = true then 1 else 0 : Nat) = if i = nn then 1 else 0 := by
      by_cases h : i = nn
      · rw [if_pos h, if_pos (by simp [toI, hto, h])]
      · rw [if_neg h, if_neg (by simp [toI, hto]; omega)]
    rw [c4] at c2
    rw [hL']
    unfold nmv
    omega
  rw [← hL']
  have hkeep : ∀ (k : Nat) x, L[k]? = some x → x.kind ≠ 0 → ∃ x', L'[k]? = some x' ∧ x'.gen = x.gen ∧ x'.kind = x.kind ∧ ∀ e ∈ x.ents, e ∈ x'.ents := by
    intro k x hx hkx
    rw [hg]
    by_cases e1 : k = kc
    · subst e1
      rw [hc] at hx
      cases hx
      refine ⟨_, if_pos rfl, rfl, rfl, fun e hem => ?_⟩
      show e ∈ es
      rw [he]
      exact List.mem_append_left _ hem
    · rw [if_neg e1, if_neg (by rintro rfl; exact hkx (hnone x hx))]
      exact ⟨x, hx, rfl, rfl, fun e h => h⟩
  have hnm : ∀ a b, names L a b = true → names L' a b = true := fun a b h => names_to h fun k x hx _ hkx => by
    obtain ⟨x', a1, a2, a3, _⟩ := hkeep k x hx hkx
    exact ⟨x', a1, a2, a3⟩
  have hnew : L'[nn]? = some (fresh g kind st) := by rw [hg, if_neg (fun e => hne e.symm), if_pos rfl]
  have hnn2 : names L' nn g = true := names_iff.2 ⟨nn, _, hnew, rfl, rfl, by show kind ≠ 0; rcases hkind with h | h <;> rw [h] <;> decide⟩
  refine isSp_mk hr (fun i x' hx' => ?_) fun c hd => ?_
  · rw [hg] at hx'
    have hni := hn (i : Int)
    split at hx'
    · rename_i e1
      cases hx'
      subst e1
      rw [if_neg (by omega)] at hni
      obtain ⟨_, _, n1, n2, n3⟩ := ho i xc hc
      refine ⟨fun _ => ⟨hR, rfl⟩, fun _ e hem => ?_, fun h => ?_, fun h h0 => ?_, fun h => ?_⟩
      · have hem' : e ∈ xc.ents ++ [e2] := by rw [← he]; exact hem
        rcases List.mem_append.1 hem' with h | h
        · exact hnm _ _ (hall e (all_of hc h))
        · rw [List.mem_singleton.1 h, hto]
          exact hnn2
      · have h2 : xc.kind = 1 := h
        omega
      · have := n2 hk h0
        omega
      · have := n3 h
        omega
    · split at hx'
      · rename_i e1
        cases hx'
        subst e1
        rw [if_pos rfl, hz] at hni
        refine ⟨fun _ => ⟨Fo.right_0, rfl⟩, fun _ e hem => (by cases hem), fun h => ?_, fun h h0 => ?_, fun h => ?_⟩
        · show (nmv L' i : Int) = 1
          omega
        · omega
        · omega
      · rename_i e1
        rw [if_neg (by omega)] at hni
        obtain ⟨o1, o2, n1, n2, n3⟩ := ho i x' hx'
        refine ⟨o1, fun h e hem => hnm _ _ (o2 h e hem), fun h => ?_, fun h h0 => ?_, fun h => ?_⟩
        · have := n1 h
          omega
        · have := n2 h h0
          omega
        · have := n3 h
          omega
  · have hch : ∀ p c, Child L p c → Child L' p c := fun p c hpc => by
      obtain ⟨⟨x, hx, e, hem, hec⟩, hdc⟩ := child_iff.1 hpc
      obtain ⟨x', g1, _, _, g4⟩ := hkeep p x hx (by have := ents_dir h1 hx hem; omega)
      obtain ⟨y, hy, hky⟩ := dirAt_iff.1 hdc
      obtain ⟨y', b1, _, b3, _⟩ := hkeep c y hy (by omega)
      exact child_iff.2 ⟨⟨x', g1, e, g4 e hem, hec⟩, dirAt_iff.2 ⟨y', b1, by rw [b3]; exact hky⟩⟩
    obtain ⟨m, hm⟩ := isSp_reach hs (dirAt_iff.2 ⟨xc, hc, hk⟩)
    have hm' := anc_mono hch m 0 kc hm
    by_cases hcn : c = nn
    · subst hcn
      exact ⟨m + 1, kc, hm', child_iff.2 ⟨⟨filled xc es nx st, by rw [hg, if_pos rfl], e2, by show e2 ∈ es; rw [he]; simp, by rw [hto]⟩, hd⟩⟩
    · obtain ⟨x', hx', hk'⟩ := dirAt_iff.1 hd
      rw [hg, if_neg hcn] at hx'
      have hdc : dirAt L c = true := by
        split at hx'
        · rename_i e1
          subst e1
          exact dirAt_iff.2 ⟨xc, hc, hk⟩
        · exact dirAt_iff.2 ⟨x', hx', hk'⟩
      obtain ⟨d, ha⟩ := isSp_reach hs hdc
      exact ⟨d, anc_mono hch d 0 c ha⟩
end Sp
end Go.Proofs.Ytacghcoikekfeaa
/- Sta1 -/
namespace Go.Proofs.Ytacghcoikekfeaa
open It
set_option maxRecDepth 100000
namespace Sp
theorem st_nonneg {L : List Ino} {st : Int} (h : top L ≤ st ∧ st ≤ 1099511627776) : 0 ≤ st ∧ st ≤ 1099511627776 := ⟨Int.le_trans (top_nonneg _) h.1, h.2⟩
theorem find_same {L : List Ino} {a b : Int} {k : Nat} {x : Ino} (hf : findErr L a b = 0) (ha : a = k) (hx : L[k]? = some x) : findI L a b = x := by
  unfold findI
  rw [if_pos hf, ha, show ((k : Int)).toNat = k by omega, hx]
  rfl
theorem count_snoc {l : List En} {e : En} {k : Nat} (h : e.2.2.1 = k) (i : Int) : ((l ++ [e]).countP (toI i) : Int) = l.countP (toI i) + (if i = k then 1 else 0) := by
  rw [List.countP_append, List.countP_cons, List.countP_nil]
  by_cases hi : i = k
  · rw [if_pos hi, if_pos (by simp [toI, h, hi])]
    omega
  · rw [if_neg hi, if_neg (by simp [toI, h]; omega)]
    omega
theorem count_cut {l : List En} {j : Nat} {e : En} {k : Nat} (hj : l[j]? = some e) (h : e.2.2.1 = k) (i : Int) : ((l.eraseIdx j).countP (toI i) : Int) = l.countP (toI i) + (if i = k then -1 else 0) := by
  have c := cerase (toI i) l j e hj
  by_cases hi : i = k
  · rw [if_pos (by simp [toI, h, hi])] at c
    rw [if_pos hi]
    omega
  · rw [if_neg (by simp [toI, h]; omega)] at c
    rw [if_neg hi]
    omega
theorem cut_sup {l : List En} {j : Nat} {e : En} {k : Nat} (hj : l[j]? = some e) (h : e.2.2.1 = k) : ∀ x ∈ l, x ∈ l.eraseIdx j ∨ x.2.2.1 = k := fun x hx => by
  rcases erase_sup hj x hx with h1 | h1
  · exact .inl h1
  · exact .inr (by rw [h1]; exact h)
theorem add_right {l : List Ent} {nx : Int} {s : ByteArray} {no g : Int} (h : Fo.addErr l nx s no g = 0) : Fo.Right (l ++ [(s, nx + 1, no, g)]) (nx + 1) := by
  obtain ⟨hR, hok, hHo, hat, hnx⟩ := Fo.add_zero h
  exact Fo.right_add hR hok hHo hat (by have := hR.1.2; omega)
theorem link_stays {L : List Ino} {a b c d st : Int} {s : ByteArray} (h : linkE (chk isSp) L a b c d s st = 0) : isSp (linkT (chk isSp) L a b c d s st) = true := by
  unfold linkT
  rw [if_pos h]
  unfold linkE at h
  by_cases hl : linkErr (chk isSp) L a b c d s st = 0
  · rw [if_pos hl] at h
    obtain ⟨⟨hc0, hst⟩, hfa, hka, hla, hdc⟩ := linkErr_zero hl
    obtain ⟨-, -, hlen, -⟩ := isSp_means _ hc0
    have hs := chk_zero hc0
    obtain ⟨ka, xa, ha, hxa, hga, hka0, hia, hr⟩ := find_get hfa
    obtain ⟨kc, xc, hc, hxc, hgc, hkc, hec, hnc, hfc, -⟩ := dir_get hdc
    have hic := find_same hfc hc hxc
    rw [hec, hnc] at h
    rw [hia] at hka hla
    have hatt := At.right_iff.1 (attr_of hr (List.mem_of_getElem? hxa))
    unfold At.rightP at hatt
    have hk1 : xa.kind = 1 := by omega
    have hlc := hlen xc (List.mem_of_getElem? hxc)
    rw [hia, hic, ha, hc, show ((ka : Int)).toNat = ka by omega, show ((kc : Int)).toNat = kc by omega]
    rw [ha] at h
    refine stays_file hs hxc hkc hxa hk1 (st_nonneg hst) (add_right h) (by rw [List.length_append, List.length_singleton]; omega) ⟨by omega, by omega⟩ (count_snoc rfl) (fun e he => ?_) (fun e he => .inl (List.mem_append_left _ he))
    rcases List.mem_append.1 he with h1 | h1
    · exact .inl h1
    · exact .inr (by rw [List.mem_singleton.1 h1, ← hga])
  · rw [if_neg hl] at h
    exact absurd h hl
theorem unlink_stays {L : List Ino} {a b st : Int} {s : ByteArray} (h : ulE (chk isSp) L a b s st = 0) : isSp (ulT (chk isSp) L a b s st) = true := by
  unfold ulT
  rw [if_pos h]
  unfold ulE at h
  by_cases hl : toErr (chk isSp) L st a b s = 0
  · rw [if_pos hl] at h
    obtain ⟨kc, xc, j, e, kt, xt, ha, hxc, hgc, hkc, hfc, hff, hp, hj, hH, hek, hk0, hxt, hgt, hkt0, hlt, hft, hit, hic, hr, hst, hlc⟩ := to_zero isSp_means hl
    have hs : isSp L = true := by
      unfold toErr at hl
      by_cases h2 : stErr (chk isSp) L st = 0
      · exact chk_zero (stErr_zero h2).1
      · rw [if_neg h2] at hl
        exact absurd hl h2
    rw [hH, hit] at h
    rw [hH, hit]
    have hk2 : xt.kind ≠ 2 := fun h2 => by
      rw [if_pos h2] at h
      exact absurd h (by decide)
    have hatt := At.right_iff.1 (attr_of hr (List.mem_of_getElem? hxt))
    unfold At.rightP at hatt
    have hk1 : xt.kind = 1 := by omega
    unfold lessDir
    rw [hic, hp, ha, hek, show ((kc : Int)).toNat = kc by omega, show ((j : Int)).toNat = j by omega, show ((kt : Int)).toNat = kt by omega]
    have hR := ((isSp_ok hs kc xc hxc).1 hkc).1
    exact stays_file hs hxc hkc hxt hk1 (st_nonneg hst) (Fo.right_cut hR j) (Nat.le_trans (List.length_eraseIdx_le ..) (by omega)) ⟨by omega, by omega⟩ (count_cut hj hek) (fun e he => .inl (List.mem_of_mem_eraseIdx he)) (cut_sup hj hek)
  · rw [if_neg hl] at h
    exact absurd h hl
theorem rmdir_stays {L : List Ino} {a b st : Int} {s : ByteArray} (h : rmE (chk isSp) L a b s st = 0) : isSp (rmT (chk isSp) L a b s st) = true := by
  unfold rmT
  rw [if_pos h]
  unfold rmE at h
  by_cases hl : toErr (chk isSp) L st a b s = 0
  · rw [if_pos hl] at h
    obtain ⟨kc, xc, j, e, kt, xt, ha, hxc, hgc, hkc, hfc, hff, hp, hj, hH, hek, hk0, hxt, hgt, hkt0, hlt, hft, hit, hic, hr, hst, hlc⟩ := to_zero isSp_means hl
    have hs : isSp L = true := by
      unfold toErr at hl
      by_cases h2 : stErr (chk isSp) L st = 0
      · exact chk_zero (stErr_zero h2).1
      · rw [if_neg h2] at hl
        exact absurd hl h2
    rw [hH, hit] at h
    rw [hH]
    by_cases hk2 : xt.kind = 2
    · rw [if_pos hk2] at h
      by_cases hen : xt.ents = []
      · unfold lessDir
        rw [hic, hp, ha, hek, ← hgt, show ((kc : Int)).toNat = kc by omega, show ((j : Int)).toNat = j by omega, show ((kt : Int)).toNat = kt by omega]
        have hR := ((isSp_ok hs kc xc hxc).1 hkc).1
        have hne : kc ≠ kt := by
          rintro rfl
          rw [hxc] at hxt
          cases hxt
          rw [hen] at hj
          simp at hj
        exact stays_rm hs hxc hkc hxt hk2 hen hk0 hne (st_nonneg hst) (Fo.right_cut hR j) (Nat.le_trans (List.length_eraseIdx_le ..) (by omega)) (count_cut hj hek) (fun e he => List.mem_of_mem_eraseIdx he) (cut_sup hj hek)
      · rw [if_neg hen] at h
        exact absurd h (by decide)
    · rw [if_neg hk2] at h
      exact absurd h (by decide)
  · rw [if_neg hl] at h
    exact absurd h hl
theorem make_stays {L : List Ino} {a b kind st : Int} {s : ByteArray} (h : mkE (chk isSp) L a b s kind st = 0) : isSp (mkT (chk isSp) L a b s kind st) = true := by
  unfold mkT
  rw [if_pos h]
  unfold mkE at h
  by_cases hl : makeErr (chk isSp) L a b s kind st = 0
  · rw [if_pos hl] at h
    obtain ⟨⟨hc0, hst⟩, hkind, hdc⟩ := makeErr_zero hl
    by_cases hm : It.makeErr L kind st = 0
    · rw [if_pos hm] at h
      obtain ⟨-, -, hlen, -⟩ := isSp_means _ hc0
      have hs := chk_zero hc0
      obtain ⟨hr, -, hn24, e1, e2⟩ := make_next hm
      obtain ⟨hk1, -⟩ := make_keep hm
      obtain ⟨kc, xc, hc, hxc, hgc, hkc, hec, hnc, hfc, -⟩ := dir_get hdc
      have hic := find_same hfc hc hxc
      obtain ⟨hn1, -⟩ := next_good hr
      have hlc := hlen xc (List.mem_of_getElem? hxc)
      have hnn : ∃ nn : Nat, (next L).1 = nn ∧ ((∃ x0, L[nn]? = some x0 ∧ x0.kind = 0) ∨ nn = L.length) := by
        rcases next_cases L with ⟨j, y, hy, hyk, -, e⟩ | e
        · exact ⟨j, by rw [e], .inl ⟨y, hy, hyk⟩⟩
        · exact ⟨L.length, by rw [e], .inr rfl⟩
      obtain ⟨nn, hnn1, hnn2⟩ := hnn
      rw [hec, hnc, e2] at h
      rw [e1] at hk1 ⊢
      rw [hic, e2, hc]
      rw [hnn1, show ((nn : Int)).toNat = nn by omega] at hk1
      rw [hnn1, show ((nn : Int)).toNat = nn by omega, show ((kc : Int)).toNat = kc by omega]
      rw [hnn1] at h
      exact stays_mk hs hxc hkc hkind hnn2 (by omega) hk1 (st_nonneg hst) (add_right h) (by rw [List.length_append, List.length_singleton]; omega) rfl rfl
    · rw [if_neg hm] at h
      exact absurd h hm
  · rw [if_neg hl] at h
    exact absurd h hl
theorem rename_stays {L : List Ino} {a b c d st : Int} {s s2 : ByteArray} (h : rnE (chk isSp) insB L a b s c d s2 st = 0) : isSp (rnT (chk isSp) insB L a b s c d s2 st) = true := by
  unfold rnT
  rw [if_pos h]
  unfold rnE at h
  by_cases hl : toErr (chk isSp) L st a b s = 0
  · rw [if_pos hl] at h
    obtain ⟨kc, xc, j, e, kt, xt, ha, hxc, hgc, hkc, hfc, hff, hp, hj, hH, hek, hk0, hxt, hgt, hkt0, hlt, hft, hit, hic, hr, hst, hlc⟩ := to_zero isSp_means hl
    have hs0 : chk isSp L = 0 := by
      unfold toErr at hl
      by_cases h2 : stErr (chk isSp) L st = 0
      · exact (stErr_zero h2).1
      · rw [if_neg h2] at hl
        exact absurd hl h2
    have hs := chk_zero hs0
    obtain ⟨-, -, hlen, -⟩ := isSp_means _ hs0
    rw [hH] at h
    rw [hH]
    by_cases hm : moveErr insB L e.2.2.1 c d s2 = 0
    · rw [if_pos hm] at h
      have hdd := moveErr_zero hm
      obtain ⟨kd, xd, hd, hxd, hgd, hkd, -, -, hfd, -⟩ := dir_get hdd
      have hin : dirAt L kt = true → ¬ ∃ d, Anc L d kt kd := fun hdt hex => by
        have hi := (insB_iff hs hdt).2 hex
        unfold moveErr at hm
        by_cases hq : (nameErr L c d s2 = 0 ∨ nameErr L c d s2 = 403) ∧ insB L e.2.2.1 c = true
        · rw [if_pos hq] at hm
          exact absurd hm (by decide)
        · rw [if_neg hq] at hm
          exact hq ⟨.inl hm, by rw [hek, hd]; exact hi⟩
      have hR := ((isSp_ok hs kc xc hxc).1 hkc).1
      have hcut := Fo.right_cut hR j
      have hlcut : (xc.ents.eraseIdx j).length ≤ 1536 := Nat.le_trans (List.length_eraseIdx_le ..) hlc
      have eL : lessDir L a b s st = L.set kc (filled xc (xc.ents.eraseIdx j) xc.next st) := by
        unfold lessDir
        rw [hic, hp, ha, show ((kc : Int)).toNat = kc by omega, show ((j : Int)).toNat = j by omega]
      have r1 : It.right (L.set kc (filled xc (xc.ents.eraseIdx j) xc.next st)) = true := right_set hr hxc (one_filled ((It.right_iff.1 hr).2.2 xc (List.mem_of_getElem? hxc)) hkc (st_nonneg hst) (by omega) (nx := xc.next)) rfl
      obtain ⟨x1, hx1, hg1, hk1, hl1, hsub, -⟩ := mid hxc hkc hlcut (fun e he => List.mem_of_mem_eraseIdx he) hst hxd hkd (hlen xd (List.mem_of_getElem? hxd)) r1
      have eM : midI L a b s st c = x1 := by
        unfold midI
        rw [eL, hd, show ((kd : Int)).toNat = kd by omega, hx1]
        rfl
      rw [eM] at h
      rw [eM, eL, hd, show ((kd : Int)).toNat = kd by omega]
      have hnt : names L e.2.2.1 e.2.2.2 = true := ok_named hr (isSp_ok hs) e (all_of hxc (List.mem_of_getElem? hj))
      exact stays_rn (e2 := (s2, x1.next + 1, e.2.2.1, e.2.2.2)) hs hxc hkc hx1 hk1 (st_nonneg hst) hcut (by omega) (add_right h) (by rw [List.length_append, List.length_singleton]; omega) rfl hek hnt (count_cut hj hek) (fun e he => List.mem_of_mem_eraseIdx he) (cut_sup hj hek) hin
    · rw [if_neg hm] at h
      exact absurd h hm
  · rw [if_neg hl] at h
    exact absurd h hl
/-- Names of a space can be. -/
theorem okN_sp {L : List Rw} (h : isSp (pl L) = true) : okN L := fun x hx e he => by
  obtain ⟨i, hi⟩ := List.mem_iff_getElem?.1 hx
  have hpi : (pl L)[i]? = some x.i := by rw [List.getElem?_map, hi]; rfl
  have h32 := ((isSp_tree h).inr i e (mem_entsAt.2 ⟨x.i, hpi, he⟩)).2.2.1
  exact Nat.le_trans h32 (by decide)
/-- What tells an error tells no table. -/
theorem link_none {C : List Ino → Int} {L : List Ino} {a b c d st : Int} {s : ByteArray} (h : linkE C L a b c d s st ≠ 0) : linkT C L a b c d s st = [] := by unfold linkT; rw [if_neg h]
theorem unlink_none {C : List Ino → Int} {L : List Ino} {a b st : Int} {s : ByteArray} (h : ulE C L a b s st ≠ 0) : ulT C L a b s st = [] := by unfold ulT; rw [if_neg h]
theorem rmdir_none {C : List Ino → Int} {L : List Ino} {a b st : Int} {s : ByteArray} (h : rmE C L a b s st ≠ 0) : rmT C L a b s st = [] := by unfold rmT; rw [if_neg h]
theorem make_none {C : List Ino → Int} {L : List Ino} {a b kind st : Int} {s : ByteArray} (h : mkE C L a b s kind st ≠ 0) : mkT C L a b s kind st = [] := by unfold mkT; rw [if_neg h]
theorem rename_none {C : List Ino → Int} {I : List Ino → Int → Int → Bool} {L : List Ino} {a b c d st : Int} {s s2 : ByteArray} (h : rnE C I L a b s c d s2 st ≠ 0) : rnT C I L a b s c d s2 st = [] := by unfold rnT; rw [if_neg h]
end Sp
end Go.Proofs.Ytacghcoikekfeaa
/- RSo -/
namespace Go.Proofs.Ytacghcoikekfeaa
open Go.ChangeShapes Go.WideShapes Go.ChangeAt Go.RowKit Go.Deep It
set_option maxRecDepth 100000
/-- Texts in a row. -/
def ETx : Enc ByteArray := ⟨1, fun s => [.string s], fun _ => rfl, fun x u hu => by
  simp at hu
  rcases hu with rfl
  rfl⟩
theorem infoT : (Try.prog.info? 9).map (fun i => (i.zero, i.size, i.bytes)) = some (some (.string ⟨#[]⟩), 1, 16) := by kernel_rfl
def Sp.ltT (a b : ByteArray) : Bool := Go.Op.bytesLess a.toList b.toList
/-- A text among others. -/
def Sp.insT (s : ByteArray) : List ByteArray → List ByteArray
  | [] => [s]
  | x :: l => if Sp.ltT s x = true then s :: x :: l else x :: Sp.insT s l
theorem at_oneT {w : World} {A : Nat} {s : ByteArray} (h : w.heap[A]? = some (.cells #[.string s] 9)) : AtW ETx w (.slice (some ⟨A, 0, none⟩) 1 1) [s] := by
  refine .inr ⟨A, 0, 1, rfl, trivial, (Array.getElem?_eq_some_iff.1 h).1, by simp, by simp, by unfold maxLen; omega, fun j u hj => ?_⟩
  have e : ETx.flat [s] = [.string s] := rfl
  rw [e] at hj
  rcases j with _ | j
  · simp at hj
    subst hj
    simp [World.cell?, h]
  · simp at hj
end Go.Proofs.Ytacghcoikekfeaa
/- RBe -/
namespace Go.Proofs.Ytacghcoikekfeaa
open Go.ChangeShapes Go.WideShapes Go.ChangeAt Go.RowKit Go.Deep It
set_option maxRecDepth 100000
namespace Sp
/-- The paths below a folder, among others. -/
def below (L : List Ino) : Nat → Nat → ByteArray → List ByteArray → List ByteArray
  | 0, _, _, out => out
  | f + 1, no, path, out => (entsAt L no).foldl (fun o e => if dirAt L e.2.2.1.toNat = true then below L f e.2.2.1.toNat (way path e.1) (insT (way path e.1) o) else insT (way path e.1) o) out
def belowE (L : List Ino) (f : Nat) (path : ByteArray) (o : List ByteArray) (e : En) : List ByteArray := if dirAt L e.2.2.1.toNat = true then below L f e.2.2.1.toNat (way path e.1) (insT (way path e.1) o) else insT (way path e.1) o
theorem below_succ (L : List Ino) (f no : Nat) (path : ByteArray) (out : List ByteArray) : below L (f + 1) no path out = (entsAt L no).foldl (belowE L f path) out := rfl
theorem insT_len (s : ByteArray) : ∀ l : List ByteArray, (insT s l).length = l.length + 1
  | [] => rfl
  | x :: l => by
    unfold insT
    split
    · rfl
    · simp [insT_len s l]
theorem fold_len {α : Type} {g : List ByteArray → α → List ByteArray} (h : ∀ o e, o.length ≤ (g o e).length) : ∀ (l : List α) (o : List ByteArray), o.length ≤ (l.foldl g o).length
  | [], _ => Nat.le_refl _
  | e :: l, o => Nat.le_trans (h o e) (fold_len h l _)
theorem below_len (L : List Ino) : ∀ (f no : Nat) (path : ByteArray) (out : List ByteArray), out.length ≤ (below L f no path out).length
  | 0, _, _, _ => Nat.le_refl _
  | f + 1, no, path, out => by
    rw [below_succ]
    refine fold_len (fun o e => ?_) _ _
    unfold belowE
    split
    · have := below_len L f e.2.2.1.toNat (way path e.1) (insT (way path e.1) o)
      rw [insT_len] at this
      omega
    · rw [insT_len]
      omega
theorem belowE_len (L : List Ino) (f : Nat) (path : ByteArray) (o : List ByteArray) (e : En) : o.length + 1 ≤ (belowE L f path o e).length := by
  unfold belowE
  split
  · have := below_len L f e.2.2.1.toNat (way path e.1) (insT (way path e.1) o)
    rw [insT_len] at this
    omega
  · rw [insT_len]
    omega
/-- What is there ahead of the j-th entry. -/
def belowTo (L : List Ino) (f no : Nat) (path : ByteArray) (out : List ByteArray) (j : Nat) : List ByteArray := ((entsAt L no).take j).foldl (belowE L f path) out
theorem belowTo_succ {L : List Ino} {f no : Nat} {path : ByteArray} {out : List ByteArray} {j : Nat} {e : En} (h : (entsAt L no)[j]? = some e) : belowTo L f no path out (j + 1) = belowE L f path (belowTo L f no path out j) e := by
  unfold belowTo
  rw [List.take_add_one, h, List.foldl_append]
  rfl
theorem belowTo_all {L : List Ino} {f no : Nat} {path : ByteArray} {out : List ByteArray} {j : Nat} (h : (entsAt L no).length = j) : belowTo L f no path out j = below L (f + 1) no path out := by
  unfold belowTo
  rw [below_succ, ← h, List.take_length]
theorem belowTo_len (L : List Ino) (f no : Nat) (path : ByteArray) (out : List ByteArray) (j : Nat) : (belowTo L f no path out j).length ≤ (below L (f + 1) no path out).length := by
  unfold belowTo
  rw [below_succ]
  conv => rhs; rw [← List.take_append_drop j (entsAt L no), List.foldl_append]
  exact fold_len (fun o e => Nat.le_trans (Nat.le_succ _) (belowE_len L f path o e)) _ _
end Sp
end Go.Proofs.Ytacghcoikekfeaa
/- RPa -/
namespace Go.Proofs.Ytacghcoikekfeaa
open Go.ChangeShapes Go.WideShapes Go.ChangeAt Go.RowKit Go.Deep It
set_option maxRecDepth 100000
namespace Sp
/-- The ways of a folder's entries. -/
def ways (L : List Ino) (z : Nat × ByteArray) : List ByteArray := (entsAt L z.1).map fun e => way z.2 e.1
theorem insT_perm (s : ByteArray) : ∀ l : List ByteArray, (insT s l).Perm (s :: l)
  | [] => .refl _
  | x :: l => by
    unfold insT
    split
    · exact .refl _
    · exact ((insT_perm s l).cons x).trans (.swap _ _ _)
theorem fold_perm {L : List Ino} {f : Nat} {path : ByteArray} (h : ∀ o e, (belowE L f path o e).Perm (o ++ way path e.1 :: (step L f path e).flatMap (ways L))) : ∀ (es : List En) (o : List ByteArray), (es.foldl (belowE L f path) o).Perm (o ++ (es.map (fun e => way path e.1) ++ es.flatMap fun e => (step L f path e).flatMap (ways L)))
  | [], o => by simp
  | e :: es, o => by
    rw [List.foldl_cons, List.map_cons, List.flatMap_cons]
    refine (fold_perm h es _).trans ?_
    refine ((h o e).append_right _).trans ?_
    rw [List.append_assoc, List.cons_append, List.cons_append]
    refine (List.Perm.cons _ ?_).append_left o
    rw [← List.append_assoc, ← List.append_assoc]
    exact (List.perm_append_comm).append_right _
theorem below_perm (L : List Ino) : ∀ (f no : Nat) (path : ByteArray) (out : List ByteArray), (below L f no path out).Perm (out ++ (walk L f no path).flatMap (ways L))
  | 0, _, _, out => by simp [below, walk]
  | f + 1, no, path, out => by
    rw [below_succ, walk_succ, List.flatMap_cons, List.flatMap_assoc]
    refine fold_perm (fun o e => ?_) _ _
    unfold belowE
    split
    · rename_i hd
      rw [step_dir hd]
      refine (below_perm L f _ _ _).trans ?_
      refine ((insT_perm _ _).append_right _).trans ?_
      rw [List.cons_append]
      exact List.perm_middle.symm
    · rename_i hd
      rw [step_file (by simpa using hd)]
      refine (insT_perm _ _).trans ?_
      simp only [List.flatMap_nil]
      exact (List.perm_append_comm (l₁ := [way path e.1]) (l₂ := o))
theorem flat_len {α β : Type} {f : α → List β} {B : Nat} : ∀ l : List α, (∀ x ∈ l, (f x).length ≤ B) → (l.flatMap f).length ≤ l.length * B
  | [], _ => by simp
  | x :: l, h => by
    rw [List.flatMap_cons, List.length_append, List.length_cons, Nat.succ_mul]
    have h1 := h x (by simp)
    have h2 := flat_len l fun y hy => h y (List.mem_cons_of_mem _ hy)
    omega
theorem ways_few {L : List Ino} (h : isSp L = true) : ((walk L 24 0 ⟨#[]⟩).flatMap (ways L)).length ≤ 36864 := by
  have ht := isSp_tree h
  have h1 := walk_len ht 24 ⟨#[]⟩
  have h2 : (dirs L).length ≤ 24 := by
    unfold dirs
    have := List.length_filter_le (dirAt L) (List.range L.length)
    rw [List.length_range] at this
    have := (right_len (isSp_iff.1 h).1).2
    omega
  have h3 := flat_len (f := ways L) (B := 1536) (walk L 24 0 ⟨#[]⟩) (fun z _ => by
    unfold ways
    rw [List.length_map]
    unfold entsAt
    split
    · rename_i x hx
      exact (isSp_means L (by unfold chk; rw [if_pos h])).2.2.1 x (List.mem_of_getElem? hx)
    · simp)
  have : (walk L 24 0 ⟨#[]⟩).length * 1536 ≤ 24 * 1536 := Nat.mul_le_mul_right _ (by omega)
  omega
/-- The paths, as the reference has them. -/
noncomputable def pathsR (L : List Ino) : List ByteArray := if isSp L = true then ⟨#[47]⟩ :: below L 24 0 ⟨#[]⟩ [] else []
theorem below_few {L : List Ino} (h : isSp L = true) : (below L 24 0 ⟨#[]⟩ []).length ≤ 36864 := by
  rw [(below_perm L 24 0 ⟨#[]⟩ []).length_eq, List.nil_append]
  exact ways_few h
end Sp
theorem nilT {w : World} : AtW ETx w (.slice none 0 0) [] := .inl ⟨_, _, rfl, rfl⟩
theorem row_oneT {w : World} {A : Nat} {s : ByteArray} (h : w.heap[A]? = some (.cells #[.string s] 9)) : Row ETx w A 9 (.slice (some ⟨A, 0, none⟩) 1 1) [s] := by
  refine .inr ⟨A, 1, #[.string s], rfl, Nat.le_refl _, h, by simp, by unfold maxLen; omega, by simp [ETx], ?_⟩
  rfl
end Go.Proofs.Ytacghcoikekfeaa
