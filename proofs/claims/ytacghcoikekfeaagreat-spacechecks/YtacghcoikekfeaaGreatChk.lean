/-
  space.Check: what it answers; so all that leans on it stands.
-/
import Derived.Test.YtacghcoikekfeaaGreatSpC
import Derived.Test.YtacghcoikekfeaaGreatCnt
import Derived.Test.YtacghcoikekfeaaGreatRea
import Derived.Test.YtacghcoikekfeaaGreatSp22
import Derived.Test.YtacghcoikekfeaaGreatSRef1
namespace Go.Proofs.YtacghcoikekfeaaGreat
open Go.ChangeShapes Go.WideShapes Go.ChangeAt Go.RowKit Go.Deep It
set_option maxRecDepth 100000
theorem checkErr_or (L : List Ino) : (It.checkErr L = 0 ∧ It.right L = true) ∨ (It.checkErr L = 4 ∧ It.right L = false) := by
  unfold It.checkErr
  cases h : It.right L
  · exact .inr ⟨rfl, rfl⟩
  · exact .inl ⟨rfl, rfl⟩
set_option maxHeartbeats 4000000 in
theorem scheck_any : ChkSaid (Sp.chk Sp.isSp) := by
  intro S v L w hv hok
  have HV : Hid (TabAt S w v L) := hv
  have HOK : Hid (Sp.okN L) := hok
  obtain ⟨ao, cap, rfl, -, -⟩ := hv.open
  clear hv hok
  rcases checkErr_or (pl L) with ⟨hc, hr⟩ | ⟨hc, hr⟩
  · have HC : Hid (It.checkErr (pl L) = 0) := hc
    have HR : Hid (It.right (pl L) = true) := hr
    clear hc hr
    cases hf : Sp.foldsB (pl L) with
    | true =>
      have HF : Hid (Sp.foldsB (pl L) = true) := hf
      cases hn : Sp.cntB (pl L) with
      | true =>
        have HN : Hid (Sp.cntB (pl L) = true) := hn
        have HT : Hid (Sp.Tree (pl L)) := Sp.tree_of HR.out (Sp.foldsB_iff.1 hf) hn
        have hl := (Sp.right_len HR.out).2
        have HL : Hid (L.length ≤ 24) := by show L.length ≤ 24; rwa [List.length_map] at hl
        have HD : Hid (Sp.deep (pl L) 24 0) := Sp.deep_all HT.out hl (show Sp.Anc (pl L) 0 0 0 from rfl) (Sp.dirAt_lt HT.out.root)
        have HLN : Hid ((Sp.walk (pl L) 24 0 ⟨#[]⟩).length ≤ 24) := Nat.le_trans (Sp.walk_len HT.out 24 ⟨#[]⟩) (by rw [← Sp.count_dirs]; exact Nat.le_trans List.countP_le_length hl)
        obtain ⟨q, hq⟩ : ∃ q, Sp.reachB (pl L) = q := ⟨_, rfl⟩
        have HQ : Hid (Sp.reachB (pl L) = q) := hq
        have hres : Sp.chk Sp.isSp (pl L) = if q = true then 0 else 4 := by
          unfold Sp.chk Sp.isSp
          rw [HR.out, hf, hn, hq]
          rfl
        rw [hres]
        clear hres hq hl hf hn
        cases q with
        | true =>
          rw [if_pos rfl]
          go_enter Tryz.func10, Tryz.ntmps10
          go_wp2_with fail
          refine (check_any _ L _ HV.out).mono ?_
          rintro e w1 ⟨rfl, hb⟩
          rw [HC.out]
          have HB1 : Hid (Below w.heap.size w w1) := hb
          clear hb
          go_wp2_with fail
          refine (rightFolders_any _ L _ (HV.out.up HB1.out) HOK.out).mono ?_
          rintro e w2 ⟨rfl, hb⟩
          rw [HF.out]
          have HB2 : Hid (Below w.heap.size w w2) := HB1.out.trans (hb.mono HB1.out.size)
          clear hb
          go_wp2_with fail
          refine (counted_any _ L _ (HV.out.up HB2.out) HR.out).mono ?_
          rintro e w3 ⟨rfl, hb⟩
          rw [HN.out]
          have HB3 : Hid (Below w.heap.size w w3) := HB2.out.trans (hb.mono HB2.out.size)
          clear hb
          go_wp2_with fail
          refine (reached_any _ L _ (HV.out.up HB3.out) HD.out HL.out HLN.out).mono ?_
          rintro e w4 ⟨rfl, hb⟩
          rw [show (((Sp.walk (pl L) 24 0 ⟨#[]⟩).length : Int) - ((pl L).countP (fun x => x.kind == 2) : Nat) == 0) = true from HQ.out]
          have HB4 : Hid (Below w.heap.size w w4) := HB3.out.trans (hb.mono HB3.out.size)
          clear hb
          go_wp2
          go_ret
          exact ⟨rfl, HB4.out⟩
        | false =>
          rw [if_neg (by decide)]
          go_enter Tryz.func10, Tryz.ntmps10
          go_wp2_with fail
          refine (check_any _ L _ HV.out).mono ?_
          rintro e w1 ⟨rfl, hb⟩
          rw [HC.out]
          have HB1 : Hid (Below w.heap.size w w1) := hb
          clear hb
          go_wp2_with fail
          refine (rightFolders_any _ L _ (HV.out.up HB1.out) HOK.out).mono ?_
          rintro e w2 ⟨rfl, hb⟩
          rw [HF.out]
          have HB2 : Hid (Below w.heap.size w w2) := HB1.out.trans (hb.mono HB1.out.size)
          clear hb
          go_wp2_with fail
          refine (counted_any _ L _ (HV.out.up HB2.out) HR.out).mono ?_
          rintro e w3 ⟨rfl, hb⟩
          rw [HN.out]
          have HB3 : Hid (Below w.heap.size w w3) := HB2.out.trans (hb.mono HB2.out.size)
          clear hb
          go_wp2_with fail
          refine (reached_any _ L _ (HV.out.up HB3.out) HD.out HL.out HLN.out).mono ?_
          rintro e w4 ⟨rfl, hb⟩
          rw [show (((Sp.walk (pl L) 24 0 ⟨#[]⟩).length : Int) - ((pl L).countP (fun x => x.kind == 2) : Nat) == 0) = false from HQ.out]
          have HB4 : Hid (Below w.heap.size w w4) := HB3.out.trans (hb.mono HB3.out.size)
          clear hb
          go_wp2
          go_ret
          exact ⟨rfl, HB4.out⟩
      | false =>
        have HN : Hid (Sp.cntB (pl L) = false) := hn
        have hres : Sp.chk Sp.isSp (pl L) = 4 := by
          unfold Sp.chk Sp.isSp
          rw [HR.out, hf, hn]
          rfl
        rw [hres]
        clear hres hf hn
        go_enter Tryz.func10, Tryz.ntmps10
        go_wp2_with fail
        refine (check_any _ L _ HV.out).mono ?_
        rintro e w1 ⟨rfl, hb⟩
        rw [HC.out]
        have HB1 : Hid (Below w.heap.size w w1) := hb
        clear hb
        go_wp2_with fail
        refine (rightFolders_any _ L _ (HV.out.up HB1.out) HOK.out).mono ?_
        rintro e w2 ⟨rfl, hb⟩
        rw [HF.out]
        have HB2 : Hid (Below w.heap.size w w2) := HB1.out.trans (hb.mono HB1.out.size)
        clear hb
        go_wp2_with fail
        refine (counted_any _ L _ (HV.out.up HB2.out) HR.out).mono ?_
        rintro e w3 ⟨rfl, hb⟩
        rw [HN.out]
        have HB3 : Hid (Below w.heap.size w w3) := HB2.out.trans (hb.mono HB2.out.size)
        clear hb
        go_wp2
        go_ret
        exact ⟨rfl, HB3.out⟩
    | false =>
      have HF : Hid (Sp.foldsB (pl L) = false) := hf
      have hres : Sp.chk Sp.isSp (pl L) = 4 := by
        unfold Sp.chk Sp.isSp
        rw [HR.out, hf]
        rfl
      rw [hres]
      clear hres hf
      go_enter Tryz.func10, Tryz.ntmps10
      go_wp2_with fail
      refine (check_any _ L _ HV.out).mono ?_
      rintro e w1 ⟨rfl, hb⟩
      rw [HC.out]
      have HB1 : Hid (Below w.heap.size w w1) := hb
      clear hb
      go_wp2_with fail
      refine (rightFolders_any _ L _ (HV.out.up HB1.out) HOK.out).mono ?_
      rintro e w2 ⟨rfl, hb⟩
      rw [HF.out]
      have HB2 : Hid (Below w.heap.size w w2) := HB1.out.trans (hb.mono HB1.out.size)
      clear hb
      go_wp2
      go_ret
      exact ⟨rfl, HB2.out⟩
  · have HC : Hid (It.checkErr (pl L) = 4) := hc
    have hres : Sp.chk Sp.isSp (pl L) = 4 := by
      unfold Sp.chk Sp.isSp
      rw [hr]
      rfl
    rw [hres]
    clear hres hc hr
    go_enter Tryz.func10, Tryz.ntmps10
    go_wp2_with fail
    refine (check_any _ L _ HV.out).mono ?_
    rintro e w1 ⟨rfl, hb⟩
    rw [HC.out]
    go_wp2
    go_ret
    exact ⟨rfl, hb⟩
theorem Sp.len_sum {β : Type} (f : β → Nat) (B : Nat) : ∀ (n : Nat) (l : List β), (∀ e ∈ l, f e < n) → (∀ c, c < n → l.countP (fun e => f e == c) ≤ B) → l.length ≤ n * B
  | 0, l, h, _ => by
    cases l with
    | nil => simp
    | cons e r => have := h e (by simp); omega
  | n + 1, l, h, hc => by
    have h1 : l.length = l.countP (fun e => f e == n) + (l.filter (fun e => !(f e == n))).length := by
      rw [← List.countP_eq_length_filter, List.length_eq_countP_add_countP (fun e => f e == n)]
      congr 1
      refine List.countP_congr fun e _ => ?_
      simp
    have h2 := Sp.len_sum f B n (l.filter (fun e => !(f e == n))) (fun e he => by
      obtain ⟨h3, h4⟩ := List.mem_filter.1 he
      have := h e h3
      simp at h4
      omega) (fun c hcn => Nat.le_trans (List.Sublist.countP_le List.filter_sublist) (hc c (by omega)))
    have h3 := hc n (by omega)
    rw [h1, Nat.succ_mul]
    omega
theorem Sp.few {L : List Ino} (h : It.right L = true) (hc : Sp.cntB L = true) (c : Nat) : (Sp.allEnts L).countP (fun e => e.2.2.1.toNat == c) ≤ 64 := by
  by_cases hcl : c < L.length
  · have hx : L[c]? = some L[c] := List.getElem?_eq_getElem hcl
    have e1 : (Sp.allEnts L).countP (fun e => e.2.2.1.toNat == c) = Sp.cnt L ((c : Int), L[c].gen) := by
      unfold Sp.cnt
      refine List.countP_congr fun e he => ?_
      obtain ⟨h1, _, _⟩ := Sp.ent_named h hc he
      obtain ⟨i, x, hxi, hno, hg, _⟩ := names_iff.1 h1
      simp only [beq_iff_eq]
      constructor
      · intro h2
        have : i = c := by omega
        subst this
        rw [hx] at hxi
        cases hxi
        exact Prod.ext hno hg.symm
      · intro h2
        rw [h2]
        simp
    have h1 := (Sp.cntB_iff h).1 hc ((c : Int), L[c].gen)
    have h2 : Sp.Small (Sp.start L) := (Sp.startK_small h _).set _ (by decide) (by decide)
    have h3 := h2.val ((c : Int), L[c].gen)
    rw [e1]
    omega
  · have : (Sp.allEnts L).countP (fun e => e.2.2.1.toNat == c) = 0 := by
      refine List.countP_eq_zero.2 fun e he hec => ?_
      obtain ⟨h1, _, _⟩ := Sp.ent_named h hc he
      obtain ⟨i, x, hxi, hno, _⟩ := names_iff.1 h1
      have := (List.getElem?_eq_some_iff.1 hxi).1
      simp at hec
      omega
    omega
theorem isSp_means : Sp.ChkMeans (Sp.chk Sp.isSp) := by
  intro L hc
  have hs : Sp.isSp L = true := by
    unfold Sp.chk at hc
    split at hc
    · assumption
    · cases hc
  obtain ⟨h1, h2, h3, _⟩ := Sp.isSp_iff.1 hs
  have key : ∀ x ∈ L, ∀ e ∈ x.ents, findErr L e.2.2.1 e.2.2.2 = 0 ∧ 1 ≤ (findI L e.2.2.1 e.2.2.2).links ∧ e.2.2.1 ≠ 0 := fun x hx e he => by
    obtain ⟨h4, h5, h6⟩ := Sp.ent_named h1 h3 (List.mem_flatMap.2 ⟨x, hx, he⟩)
    have h7 : findErr L e.2.2.1 e.2.2.2 = 0 := by unfold findErr; rw [if_pos h1, if_pos h4]
    refine ⟨h7, ?_, h5⟩
    unfold findI
    rw [if_pos h7]
    exact h6
  refine ⟨h1, h2, fun x hx => ?_, key⟩
  obtain ⟨p, hp⟩ := List.mem_iff_getElem?.1 hx
  have h4 : x.ents.length ≤ (Sp.allEnts L).length := by
    have := Sp.one_in (fun _ => true) L p
    rw [List.countP_true] at this
    unfold Sp.entsAt at this
    rw [hp] at this
    exact this
  have h5 := Sp.len_sum (fun e : Sp.En => e.2.2.1.toNat) 64 24 (Sp.allEnts L) (fun e he => by
    obtain ⟨h6, _⟩ := Sp.ent_named h1 h3 he
    obtain ⟨i, y, hy, hno, _⟩ := names_iff.1 h6
    have h7 := (List.getElem?_eq_some_iff.1 hy).1
    have h8 := (Sp.right_len h1).2
    show e.2.2.1.toNat < 24
    omega) (fun c _ => Sp.few h1 h3 c)
  omega
/-- Is a folder below an inode, or the inode itself? -/
def Sp.insB (L : List Ino) (no to : Int) : Bool := (Sp.walk L 24 no.toNat ⟨#[]⟩).any fun z => (z.1 : Int) == to
theorem ins_said : InsSaid (Sp.chk Sp.isSp) Sp.insB := by
  rintro S v L no to w hv hok hc ⟨k, x, rfl, hk, -⟩
  have hs : Sp.isSp (pl L) = true := by
    unfold Sp.chk at hc
    split at hc
    · assumption
    · cases hc
  have hl := (Sp.right_len (Sp.isSp_iff.1 hs).1).2
  rw [List.length_map] at hl
  have := inside_any v L k to w hv (Sp.isSp_deep hs (List.getElem?_eq_some_iff.1 hk).1) (by omega)
  unfold Sp.insB
  rw [show ((k : Int)).toNat = k by omega]
  exact this
end Go.Proofs.YtacghcoikekfeaaGreat
