/-
  What is reached from a folder is what is inside it. No program.
-/
import Derived.Test.YtacghcoikekfeaaGreatSRef13
import Derived.Test.YtacghcoikekfeaaGreatChk
import Derived.Test.YtacghcoikekfeaaGreatRRt
namespace Go.Proofs.YtacghcoikekfeaaGreat
open It
set_option maxRecDepth 100000
theorem Sp.chk_zero {L : List Ino} (h : Sp.chk Sp.isSp L = 0) : Sp.isSp L = true := by
  unfold Sp.chk at h
  split at h
  · assumption
  · cases h
theorem Sp.ents_isdir {L : List Ino} (h : It.right L = true) {p : Nat} {e : Sp.En} (he : e ∈ Sp.entsAt L p) : Sp.dirAt L p = true := by
  have hpl := Sp.ents_lt he
  have hx : L[p]? = some L[p] := List.getElem?_eq_getElem hpl
  have hem : e ∈ L[p].ents := by
    unfold Sp.entsAt at he
    rw [hx] at he
    exact he
  unfold Sp.dirAt
  rw [hx]
  simp [Sp.ents_dir h hx hem]
theorem Sp.insB_iff {L : List Ino} (hs : Sp.isSp L = true) {no c : Nat} (hdn : Sp.dirAt L no = true) : Sp.insB L no c = true ↔ ∃ d, Sp.Anc L d no c := by
  obtain ⟨h1, -, -, h4⟩ := Sp.isSp_iff.1 hs
  have ht := Sp.isSp_tree hs
  have hl := (Sp.right_len h1).2
  unfold Sp.insB
  rw [show ((no : Int)).toNat = no by omega, List.any_eq_true]
  constructor
  · rintro ⟨z, hz, he⟩
    obtain ⟨d, ha⟩ := Sp.walk_mem ht _ _ _ z hz
    refine ⟨d, ?_⟩
    have : z.1 = c := by have := beq_iff_eq.1 he; omega
    rwa [this] at ha
  · rintro ⟨d, ha⟩
    obtain ⟨m, hm⟩ := (Sp.reachB_iff ht hl).1 h4 no hdn
    have := Sp.anc_lt ht (Sp.anc_trans hm d c ha)
    obtain ⟨z, hz, he⟩ := Sp.walk_has ht 24 no ⟨#[]⟩ d c ha (by omega)
    exact ⟨z, hz, by rw [he]; simp⟩
theorem ins_means : Sp.InsMeans (Sp.chk Sp.isSp) Sp.insB := by
  intro L no c hc hdc hno
  have hs := Sp.chk_zero hc
  obtain ⟨h1, -, -, h4⟩ := Sp.isSp_iff.1 hs
  have ht := Sp.isSp_tree hs
  have hl := (Sp.right_len h1).2
  refine ⟨fun hdn f hsd hfl => ?_, fun hdn => ?_⟩
  · cases hi : Sp.insB L no c with
    | true =>
      obtain ⟨d, ha⟩ := (Sp.insB_iff hs hdn).1 hi
      obtain ⟨m, hm⟩ := (Sp.reachB_iff ht hl).1 h4 no hdn
      have := Sp.anc_lt ht (Sp.anc_trans hm d c ha)
      exact hfl d (by omega) c (Sp.dirAt_lt hdc) (Sp.anc_rch d c ha)
    | false =>
      cases hf : f c with
      | false => rfl
      | true =>
        obtain ⟨d, hr⟩ := hsd c (Sp.dirAt_lt hdc) hf
        rw [(Sp.insB_iff hs hdn).2 ⟨d, Sp.rch_anc h1 d c hr hdc⟩] at hi
        cases hi
  · cases hi : Sp.insB L no c with
    | false => rfl
    | true =>
      exfalso
      unfold Sp.insB at hi
      rw [show ((no : Int)).toNat = no by omega, List.any_eq_true] at hi
      obtain ⟨z, hz, he⟩ := hi
      obtain ⟨d, ha⟩ := Sp.walk_mem ht _ _ _ z hz
      have hzc : z.1 = c := by have := beq_iff_eq.1 he; omega
      rw [hzc] at ha
      cases d with
      | zero =>
        have : no = c := ha
        rw [this, hdc] at hdn
        cases hdn
      | succ d =>
        rw [Nat.add_comm] at ha
        obtain ⟨q, h5, -⟩ := Sp.anc_split d c ha
        obtain ⟨p, hp, ⟨e, hem, -⟩, -⟩ := h5
        have : no = p := hp
        rw [← this] at hem
        rw [Sp.ents_isdir h1 hem] at hdn
        cases hdn
/-- The reference's, as they are asked. -/
theorem rtMeans : Sp.RtMeans Sp.isSp := fun _ h => (Sp.isSp_iff.1 h).1
end Go.Proofs.YtacghcoikekfeaaGreat
