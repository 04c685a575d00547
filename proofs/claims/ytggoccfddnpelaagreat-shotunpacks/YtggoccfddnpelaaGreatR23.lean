/- RUnpack, ZFst, as one. -/
import Derived.Test.YtggoccfddnpelaaGreatR21
import Derived.Test.YtggoccfddnpelaaGreatR22
namespace Go.Proofs.YtggoccfddnpelaaGreat.Ks.Rs
open Go.ChangeShapes Go.WideShapes Go.ChangeAt Go.RowKit Go.Deep
set_option maxRecDepth 100000
open Go.Proofs.YtggoccfddnpelaaGreat.Ks.Ak
namespace Ak
open Go.Proofs.YtggoccfddnpelaaGreat.Ks.Ak
theorem parse_small : ∀ (f : Nat) (last : Int) (l : List UInt8), ∀ x ∈ (Pl.parse f last l).1, x.2.size ≤ 65535
  | 0,_,_,x,hx=>by simp [Pl.parse] at hx
  | f + 1, last, l, x, hx => by
    unfold Pl.parse at hx
    split at hx
    · simp at hx
    · split at hx
      · unfold Pl.join at hx
        split at hx
        · simp only [List.cons_append, List.nil_append, List.mem_cons] at hx
          rcases hx with rfl | hx
          · simp only [Pl.fieldOf, Pl.txt_size, List.length_take]
            have h1:=(l.getD 1 0).toNat_lt
            have h2:=(l.getD 2 0).toNat_lt
            unfold Pl.lenOf
            omega
          · exact parse_small f _ _ x hx
        · simp at hx
      · simp at hx
end Ak
open Go.Proofs.YtggoccfddnpelaaGreat.Ks.Rs.Ak
theorem str_ne {a b:ByteArray} (h:a≠b):(a.toList == b.toList) = false:=by
  rw [ByteArray.toList_eq,ByteArray.toList_eq,beq_eq_false_iff_ne]
  intro e
  apply h
  rw [← Pl.txt_toList a,← Pl.txt_toList b,e]
theorem _root_.Go.Proofs.YtggoccfddnpelaaGreat.Ks.FieldsAt.openr {B:Nat} {w:World} {v:Value} {l:List (Int × ByteArray)} (h:FieldsAt B w v l):∃ ao cap,v = .slice ao l.length cap/\l.length<=maxLen/\∀ i,i < l.length->∃ b off,ao = some ⟨b,off,none⟩/\b < B/\w.cell? ⟨b,off + i * 2,none⟩ = some (.int .i64 (l.getD i (0,.empty)).1)/\w.cell? ⟨b,off + i * 2 + 1,none⟩ = some (.string (l.getD i (0,.empty)).2):=by
  rcases h with ⟨ao,cap,rfl,rfl⟩ | ⟨b,off,cap,rfl,hB,hp,hlc,hm,hx⟩
  · exact ⟨ao,cap,rfl,Nat.zero_le _,fun i hi=>by simp at hi⟩
  · exact ⟨_,cap,rfl,Nat.le_trans hlc hm,fun i hi=>⟨b,off,rfl,hB,hx i hi⟩⟩
namespace Re
theorem last_all (l:List (Int × ByteArray)) (t:Int):(Pl.allOf l t).foldl (fun _ s=>s) (⟨#[]⟩:ByteArray) = lastOf l t:=by
  induction l using rev_ind with
  | h0=>rfl
  | h1 l x ih =>
    rw [lastOf_snoc,allOf_append,List.foldl_append,ih]
    by_cases h:x.1 = t
    · have : Pl.allOf [x] t = [x.2] := by simp [Pl.allOf, h]
      rw [this,if_pos h]
      rfl
    · have : Pl.allOf [x] t = [] := by simp [Pl.allOf, h]
      rw [this,if_neg h]
      rfl
theorem fold1 (A:List ByteArray) (r:Rep) (b:ByteArray) (h:r.e = Pl.numVal b):A.foldl st1 r = { r with e:=Pl.numVal (A.foldl (fun _ s=>s) b) }:=by
  induction A generalizing r b with
  | nil=>cases r;simp only at h;subst h;rfl
  | cons x A ih=>exact ih (st1 r x) x rfl
theorem fold2 (A:List ByteArray) (r:Rep) (b:ByteArray) (h:r.no = hno b/\r.gen = hgen b):A.foldl st2 r = { r with no:=hno (A.foldl (fun _ s=>s) b),gen:=hgen (A.foldl (fun _ s=>s) b) }:=by
  induction A generalizing r b with
  | nil=>cases r;simp only at h;obtain ⟨h1,h2⟩:=h;subst h1;subst h2;rfl
  | cons x A ih=>exact ih (st2 r x) x ⟨rfl,rfl⟩
theorem fold3 (A:List ByteArray) (r:Rep) (b:ByteArray) (h:r.k = (ua b).1/\r.l = (ua b).2.1/\r.s = (ua b).2.2.1/\r.t = (ua b).2.2.2):A.foldl st3 r = { r with k:=(ua (A.foldl (fun _ s=>s) b)).1,l:=(ua (A.foldl (fun _ s=>s) b)).2.1,s:=(ua (A.foldl (fun _ s=>s) b)).2.2.1,t:=(ua (A.foldl (fun _ s=>s) b)).2.2.2 }:=by
  induction A generalizing r b with
  | nil=>cases r;simp only at h;obtain ⟨h1,h2,h3,h4⟩:=h;subst h1;subst h2;subst h3;subst h4;rfl
  | cons x A ih=>exact ih (st3 r x) x ⟨rfl,rfl,rfl,rfl⟩
theorem fold4 (A:List ByteArray) (r:Rep) (b:ByteArray) (h:r.data = b):A.foldl st4 r = { r with data:=A.foldl (fun _ s=>s) b }:=by
  induction A generalizing r b with
  | nil=>cases r;simp only at h;subst h;rfl
  | cons x A ih=>exact ih (st4 r x) x rfl
theorem fold5 (A:List ByteArray) (r:Rep):A.foldl st5 r = { r with ents:=r.ents ++ A.map entOf }:=by
  induction A generalizing r with
  | nil=>cases r;simp
  | cons x A ih =>
    show A.foldl st5 (st5 r x) = _
    rw [ih]
    simp [st5]
theorem fold6 (A:List ByteArray) (r:Rep) (b:ByteArray) (h:r.n = Pl.numVal b):A.foldl st6 r = { r with n:=Pl.numVal (A.foldl (fun _ s=>s) b) }:=by
  induction A generalizing r b with
  | nil=>cases r;simp only at h;subst h;rfl
  | cons x A ih=>exact ih (st6 r x) x rfl
theorem ua_nil:ua ⟨#[]⟩ = (0,0,0,0):=by
  unfold ua
  rw [if_neg]
  unfold At.unpErr
  rw [if_neg (by decide)]
  decide
/-- Tag by tag, what reply reads is what the fields say. -/
theorem reads (l:List (Int × ByteArray)):(Pl.allOf l 6).foldl st6 ((Pl.allOf l 5).foldl st5 ((Pl.allOf l 4).foldl st4 ((Pl.allOf l 3).foldl st3 ((Pl.allOf l 2).foldl st2 ((Pl.allOf l 1).foldl st1 zero))))) = replyOf l:=by
  have nz:Pl.numVal ⟨#[]⟩ = 0:=by decide
  have hz:hno ⟨#[]⟩ = 0/\hgen ⟨#[]⟩ = 0:=by decide
  rw [fold1 _ zero ⟨#[]⟩ nz.symm,fold2 _ _ ⟨#[]⟩ ⟨hz.1.symm,hz.2.symm⟩,fold3 _ _ ⟨#[]⟩ (by rw [ua_nil];exact ⟨rfl,rfl,rfl,rfl⟩),fold4 _ _ ⟨#[]⟩ rfl,fold5,fold6 _ _ ⟨#[]⟩ nz.symm]
  simp only [last_all]
  unfold replyOf
  simp [zero]
end Re
theorem row_at {w:World} {B:Nat} {e:TypeId} {v:Value} {l:List Ent} (h:w.ownsRow B e 4 v l.length (EE.flat l)):At EE (fun b=>B<=b) w v l:=by
  have hr:Row EE w B e v l:=by
    rcases h.2 with ⟨rfl,hn⟩ | ⟨g,cap,cur,rfl,hbg,hg,hnc,hcm,hcs,htake⟩
    · obtain rfl := List.eq_nil_of_length_eq_zero hn
      exact .inl ⟨rfl,rfl⟩
    · exact .inr ⟨g,cap,cur,rfl,hbg,hg,hnc,hcm,Nat.le_of_eq hcs.symm,htake⟩
  exact hr.at
def putR (w:World) (b:Nat) (r:Rep) (v:Value):World:=(((((((((w.setCell ⟨b,0,none⟩ (.int .i64 r.e)).setCell ⟨b,1,none⟩ (.int .i64 r.no)).setCell ⟨b,2,none⟩ (.int .i64 r.gen)).setCell ⟨b,3,none⟩ (.int .i64 r.k)).setCell ⟨b,4,none⟩ (.int .i64 r.l)).setCell ⟨b,5,none⟩ (.int .i64 r.s)).setCell ⟨b,6,none⟩ (.int .i64 r.t)).setCell ⟨b,7,none⟩ (.string r.data)).setCell ⟨b,8,none⟩ v).setCell ⟨b,9,none⟩ (.int .i64 r.n)
theorem putR_heap {w:World} {b:Nat} {r:Rep} {v:Value} (h:w.heap[b]? = some (BR r v)) (d:Rep) (u:Value):(putR w b d u).heap[b]? = some (BR d u):=by
  unfold putR
  simp [World.setCell,Array.getElem?_modify,h]
theorem putR_below {B b:Nat} {w w':World} (h:Below B w w') (hb:B<=b) (d:Rep) (u:Value):Below B w (putR w' b d u) :=
  (((((((((h.setCell (p:=⟨b,0,none⟩) hb _).setCell (p:=⟨b,1,none⟩) hb _).setCell (p:=⟨b,2,none⟩) hb _).setCell (p:=⟨b,3,none⟩) hb _).setCell (p:=⟨b,4,none⟩) hb _).setCell (p:=⟨b,5,none⟩) hb _).setCell (p:=⟨b,6,none⟩) hb _).setCell (p:=⟨b,7,none⟩) hb _).setCell (p:=⟨b,8,none⟩) hb _).setCell (p:=⟨b,9,none⟩) hb _
theorem putR_grown (w:World) (b:Nat) (d:Rep) (u:Value):w.grownBy (putR w b d u) (some b) :=
  grown_trans (grown_trans (grown_trans (grown_trans (grown_trans (grown_trans (grown_trans (grown_trans (grown_trans (grown_set w b 0 _) (grown_set _ b 1 _)) (grown_set _ b 2 _)) (grown_set _ b 3 _)) (grown_set _ b 4 _)) (grown_set _ b 5 _)) (grown_set _ b 6 _)) (grown_set _ b 7 _)) (grown_set _ b 8 _)) (grown_set _ b 9 _)
theorem fold_len (f:Rep->ByteArray->Rep) (hf:∀ r s,(f r s).ents = r.ents) (A:List ByteArray) (r:Rep):(A.foldl f r).ents = r.ents:=by
  induction A generalizing r with
  | nil=>rfl
  | cons x A ih=>exact (ih (f r x)).trans (hf r x)
set_option maxHeartbeats 4000000 in
theorem reply_any (fv:Value) (l:List (Int × ByteArray)) (w:World) (hf:FieldsAt w.heap.size w fv l) (hln:l.length<=400000) (hsm:∀ x∈l,x.2.size<=65535) :
    Calls Tryz.prog 103 #[fv] w fun e w'=>∃ v,e = .returned (VR (Re.replyOf l) v)/\At EE (fun b=>w.heap.size<=b) w' v (Re.replyOf l).ents/\Below w.heap.size w w':=by
  have HF:Hid (FieldsAt w.heap.size w fv l):=hf
  have HLN:Hid (l.length<=400000):=hln
  have HSM:Hid (∀ x∈l,x.2.size<=65535):=hsm
  have HRE:Hid (((Pl.allOf l 6).foldl Re.st6 ((Pl.allOf l 5).foldl Re.st5 ((Pl.allOf l 4).foldl Re.st4 ((Pl.allOf l 3).foldl Re.st3 ((Pl.allOf l 2).foldl Re.st2 ((Pl.allOf l 1).foldl Re.st1 Re.zero)))))) = Re.replyOf l):=Re.reads l
  obtain ⟨v1,hv1⟩:∃ v1:Value,v1 = .slice none 0 0:=⟨_,rfl⟩
  have HR1:Hid (Rs w.heap.size (w.heap.size + 1) w Re.zero v1 ((w.alloc (BR Re.zero (.slice none 0 0))).alloc (BR Re.zero (.slice none 0 0)))/\((w.alloc (BR Re.zero (.slice none 0 0))).alloc (BR Re.zero (.slice none 0 0))).heap[w.heap.size]? = some (BR Re.zero (.slice none 0 0))):=by
    rw [hv1]
    refine ⟨⟨?_,World.ownsRow_nil _ _ _ _,((Below.refl _ _).alloc (Nat.le_refl _) _).alloc (by simp) _,by omega,Nat.le_refl _⟩,(Below.heap_alloc _ _ _ (by simp)).trans (heap_alloc_new w _)⟩
    have:=heap_alloc_new (w.alloc (BR Re.zero (.slice none 0 0))) (BR Re.zero (.slice none 0 0))
    rw [World.size_alloc] at this
    exact this
  clear hf hln hsm hv1
  go_enter Tryz.func103,Tryz.ntmps103
  go_wp2_with fail
  refine (read1_any w.heap.size (w.heap.size + 1) w 400000 (by omega) _ v1 _ l 1 _ HR1.out.1 (Nat.zero_le _) ((HF.out.below HR1.out.1.below (Nat.le_refl _)).mono HR1.out.1.below.size) HLN.out HSM.out).mono ?_
  rintro e w2 ⟨rfl,v2,hr2,ho2⟩
  have HR2:Hid (Rs w.heap.size (w.heap.size + 1) w ((Pl.allOf l 1).foldl Re.st1 Re.zero) v2 w2/\w2.heap[w.heap.size]? = some (BR Re.zero (.slice none 0 0))):=⟨hr2,ho2.2 _ _ _ (by decide) (by omega) HR1.out.2⟩
  have HL2:Hid (((Pl.allOf l 1).foldl Re.st1 Re.zero).ents.length<=400000):=by show ((Pl.allOf l 1).foldl Re.st1 Re.zero).ents.length<=_;rw [fold_len Re.st1 (fun _ _=>rfl)];exact Nat.zero_le _
  clear hr2 ho2
  go_wp2_with fail
  refine (read2_any w.heap.size (w.heap.size + 1) w 400000 (by omega) _ v2 _ l 2 _ HR2.out.1 HL2.out ((HF.out.below HR2.out.1.below (Nat.le_refl _)).mono HR2.out.1.below.size) HLN.out HSM.out).mono ?_
  rintro e w3 ⟨rfl,v3,hr3,ho3⟩
  have HR3:Hid (Rs w.heap.size (w.heap.size + 1) w ((Pl.allOf l 2).foldl Re.st2 ((Pl.allOf l 1).foldl Re.st1 Re.zero)) v3 w3/\w3.heap[w.heap.size]? = some (BR Re.zero (.slice none 0 0))):=⟨hr3,ho3.2 _ _ _ (by decide) (by omega) HR2.out.2⟩
  have HL3:Hid (((Pl.allOf l 2).foldl Re.st2 ((Pl.allOf l 1).foldl Re.st1 Re.zero)).ents.length<=400000):=by show ((Pl.allOf l 2).foldl Re.st2 ((Pl.allOf l 1).foldl Re.st1 Re.zero)).ents.length<=_;rw [fold_len Re.st2 (fun _ _=>rfl)];exact HL2.out
  clear hr3 ho3
  go_wp2_with fail
  refine (read3_any w.heap.size (w.heap.size + 1) w 400000 (by omega) _ v3 _ l 3 _ HR3.out.1 HL3.out ((HF.out.below HR3.out.1.below (Nat.le_refl _)).mono HR3.out.1.below.size) HLN.out HSM.out).mono ?_
  rintro e w4 ⟨rfl,v4,hr4,ho4⟩
  have HR4:Hid (Rs w.heap.size (w.heap.size + 1) w ((Pl.allOf l 3).foldl Re.st3 ((Pl.allOf l 2).foldl Re.st2 ((Pl.allOf l 1).foldl Re.st1 Re.zero))) v4 w4/\w4.heap[w.heap.size]? = some (BR Re.zero (.slice none 0 0))):=⟨hr4,ho4.2 _ _ _ (by decide) (by omega) HR3.out.2⟩
  have HL4:Hid (((Pl.allOf l 3).foldl Re.st3 ((Pl.allOf l 2).foldl Re.st2 ((Pl.allOf l 1).foldl Re.st1 Re.zero))).ents.length<=400000):=by show ((Pl.allOf l 3).foldl Re.st3 ((Pl.allOf l 2).foldl Re.st2 ((Pl.allOf l 1).foldl Re.st1 Re.zero))).ents.length<=_;rw [fold_len Re.st3 (fun _ _=>rfl)];exact HL3.out
  clear hr4 ho4
  go_wp2_with fail
  refine (read4_any w.heap.size (w.heap.size + 1) w 400000 (by omega) _ v4 _ l 4 _ HR4.out.1 HL4.out ((HF.out.below HR4.out.1.below (Nat.le_refl _)).mono HR4.out.1.below.size) HLN.out HSM.out).mono ?_
  rintro e w5 ⟨rfl,v5,hr5,ho5⟩
  have HR5:Hid (Rs w.heap.size (w.heap.size + 1) w ((Pl.allOf l 4).foldl Re.st4 ((Pl.allOf l 3).foldl Re.st3 ((Pl.allOf l 2).foldl Re.st2 ((Pl.allOf l 1).foldl Re.st1 Re.zero)))) v5 w5/\w5.heap[w.heap.size]? = some (BR Re.zero (.slice none 0 0))):=⟨hr5,ho5.2 _ _ _ (by decide) (by omega) HR4.out.2⟩
  have HL5:Hid (((Pl.allOf l 4).foldl Re.st4 ((Pl.allOf l 3).foldl Re.st3 ((Pl.allOf l 2).foldl Re.st2 ((Pl.allOf l 1).foldl Re.st1 Re.zero)))).ents.length<=400000):=by show ((Pl.allOf l 4).foldl Re.st4 ((Pl.allOf l 3).foldl Re.st3 ((Pl.allOf l 2).foldl Re.st2 ((Pl.allOf l 1).foldl Re.st1 Re.zero)))).ents.length<=_;rw [fold_len Re.st4 (fun _ _=>rfl)];exact HL4.out
  clear hr5 ho5
  go_wp2_with fail
  refine (read5_any w.heap.size (w.heap.size + 1) w 400000 (by omega) _ v5 _ l 5 _ HR5.out.1 HL5.out ((HF.out.below HR5.out.1.below (Nat.le_refl _)).mono HR5.out.1.below.size) HLN.out HSM.out).mono ?_
  rintro e w6 ⟨rfl,v6,hr6,ho6⟩
  have HR6:Hid (Rs w.heap.size (w.heap.size + 1) w ((Pl.allOf l 5).foldl Re.st5 ((Pl.allOf l 4).foldl Re.st4 ((Pl.allOf l 3).foldl Re.st3 ((Pl.allOf l 2).foldl Re.st2 ((Pl.allOf l 1).foldl Re.st1 Re.zero))))) v6 w6/\w6.heap[w.heap.size]? = some (BR Re.zero (.slice none 0 0))):=⟨hr6,ho6.2 _ _ _ (by decide) (by omega) HR5.out.2⟩
  have HL6:Hid (((Pl.allOf l 5).foldl Re.st5 ((Pl.allOf l 4).foldl Re.st4 ((Pl.allOf l 3).foldl Re.st3 ((Pl.allOf l 2).foldl Re.st2 ((Pl.allOf l 1).foldl Re.st1 Re.zero))))).ents.length<=400000):=by
    show ((Pl.allOf l 5).foldl Re.st5 ((Pl.allOf l 4).foldl Re.st4 ((Pl.allOf l 3).foldl Re.st3 ((Pl.allOf l 2).foldl Re.st2 ((Pl.allOf l 1).foldl Re.st1 Re.zero))))).ents.length<=_
    rw [Re.fold5]
    have h1:((Pl.allOf l 4).foldl Re.st4 ((Pl.allOf l 3).foldl Re.st3 ((Pl.allOf l 2).foldl Re.st2 ((Pl.allOf l 1).foldl Re.st1 Re.zero)))).ents = []:=by rw [fold_len Re.st4 (fun _ _=>rfl),fold_len Re.st3 (fun _ _=>rfl),fold_len Re.st2 (fun _ _=>rfl),fold_len Re.st1 (fun _ _=>rfl)];rfl
    simp only [h1,List.nil_append,List.length_map]
    unfold Pl.allOf
    rw [List.length_map]
    exact Nat.le_trans (List.length_filter_le _ _) HLN.out
  clear hr6 ho6
  go_wp2_with fail
  refine (read6_any w.heap.size (w.heap.size + 1) w 400000 (by omega) _ v6 _ l 6 _ HR6.out.1 HL6.out ((HF.out.below HR6.out.1.below (Nat.le_refl _)).mono HR6.out.1.below.size) HLN.out HSM.out).mono ?_
  rintro e w7 ⟨rfl,v7,hr7,ho7⟩
  have HR7:Hid (Rs w.heap.size (w.heap.size + 1) w ((Pl.allOf l 6).foldl Re.st6 ((Pl.allOf l 5).foldl Re.st5 ((Pl.allOf l 4).foldl Re.st4 ((Pl.allOf l 3).foldl Re.st3 ((Pl.allOf l 2).foldl Re.st2 ((Pl.allOf l 1).foldl Re.st1 Re.zero)))))) v7 w7/\w7.heap[w.heap.size]? = some (BR Re.zero (.slice none 0 0))):=⟨hr7,ho7.2 _ _ _ (by decide) (by omega) HR6.out.2⟩
  clear hr7 ho7
  rw [HRE.out] at HR7
  obtain ⟨r,hr⟩:∃ r,Re.replyOf l = r:=⟨_,rfl⟩
  rw [hr] at HR7
  have HRR:Hid (Re.replyOf l = r):=hr
  obtain ⟨ao,cap,hv7,-,-⟩:=(row_at HR7.out.1.row).open
  obtain ⟨z,hz⟩:∃ z,r.ents.length = z:=⟨_,rfl⟩
  rw [hz] at hv7
  subst hv7
  obtain ⟨c0,c1,c2,c3,c4,c5,c6,c7,c8,c9⟩:=ten_of HR7.out.1.box
  obtain ⟨d0,d1,d2,d3,d4,d5,d6,d7,d8,d9⟩:=ten_of HR7.out.2
  have hl1:=block_lt HR7.out.1.box
  have hl2:=block_lt HR7.out.2
  have fa:∀ j,w7.frozen? ⟨w.heap.size,j,none⟩ = false:=fun j=>by simp [World.frozen?,HR7.out.2]
  clear hr HRE
  go_wp2
  refine bodyPost_ret (v:=VR r (.slice ao z cap)) (by simp [results,Tryz.results103,go_sem,d0,d1,d2,d3,d4,d5,d6,d7,d8,d9]) rfl ⟨.slice ao z cap,?_,?_,?_⟩
  · rw [HRR.out]
  · rw [HRR.out]
    exact row_at (HR7.out.1.row.kept (putR_grown w7 w.heap.size r (.slice ao z cap)) (.inr (not_row HR7.out.2 (by decide) HR7.out.1.row).symm))
  · exact putR_below HR7.out.1.below (Nat.le_refl _) r (.slice ao z cap)
namespace Ak
open Go.Proofs.YtggoccfddnpelaaGreat.Ks.Ak
theorem parse_len : ∀ (f : Nat) (last : Int) (l : List UInt8), (Pl.parse f last l).1.length * 3 ≤ l.length
  | 0,_,_=>by simp [Pl.parse]
  | f + 1, last, l => by
    unfold Pl.parse
    split
    · simp
    · split
      · rename_i h1 h2
        have ih:=parse_len f (Pl.tagOf l) (l.drop (3 + Pl.lenOf l))
        have h3:¬ l.length < 3:=by
          intro h
          simp [Pl.stepErr,h] at h2
        unfold Pl.join
        split
        · simp only [List.cons_append, List.nil_append, List.length_cons]
          rw [List.length_drop] at ih
          omega
        · simp
      · simp
end Ak
open Go.Proofs.YtggoccfddnpelaaGreat.Ks.Rs.Ak
theorem Re.ent_small {l:List (Int × ByteArray)} (h:∀ x∈l,x.2.size<=65535):∀ x∈(Re.replyOf l).ents,x.1.size<=maxLen:=by
  intro x hx
  unfold Re.replyOf at hx
  simp only at hx
  obtain ⟨s,hs,rfl⟩:=List.mem_map.1 hx
  unfold Pl.allOf at hs
  obtain ⟨y,hy,rfl⟩:=List.mem_map.1 hs
  have h1:=h y (List.mem_filter.1 hy).1
  unfold Re.entOf maxLen
  split
  · exact Nat.zero_le _
  · simp only [ByteArray.size_extract]
    omega
set_option maxHeartbeats 4000000 in
theorem repUnpack_at (s : ByteArray) (w : World) (hs : s.size ≤ 1048576) :
    Calls Tryz.prog 70 #[.string s] w fun e w'=>∃ v,e = .returned (.tuple #[VR (Re.unpR s.data.toList) v,.int .i64 (Re.unpE s.data.toList)])/\At EE (fun b=>w.heap.size<=b) w' v (Re.unpR s.data.toList).ents/\Below w.heap.size w w':=by
  have HS:Hid (s.size<=1048576):=hs
  obtain ⟨l,hl⟩:∃ l,Pl.unpOut s.data.toList = l:=⟨_,rfl⟩
  have HL:Hid (Pl.unpOut s.data.toList = l):=hl
  have HSM:Hid (∀ x∈l,x.2.size<=65535):=by rw [← hl];exact parse_small _ _ _
  have HLN:Hid (l.length<=400000):=by
    have h1:=parse_len s.data.toList.length 1 s.data.toList
    have h2:s.data.toList.length = s.size:=by simp
    rw [← hl]
    show (Pl.unpOut s.data.toList).length<=_
    unfold Pl.unpOut
    omega
  obtain ⟨C,hC⟩:∃ C,Re.unpR s.data.toList = C:=⟨_,rfl⟩
  obtain ⟨E,hE⟩:∃ E,Re.unpE s.data.toList = E:=⟨_,rfl⟩
  have HCE:Hid (Re.unpR s.data.toList = C/\Re.unpE s.data.toList = E):=⟨hC,hE⟩
  rw [hC,hE]
  clear hC hE hl hs
  by_cases h0:Pl.unpErr s.data.toList = 0
  · have H0 : Hid (Pl.unpErr s.data.toList = 0) := h0
    clear h0
    go_enter Tryz.func70,Tryz.ntmps70
    go_wp2_with fail
    refine (unpack_any s _ HS.out).mono ?_
    rintro e w1 ⟨fv,rfl,hown,hb1⟩
    rw [H0.out]
    rw [HL.out] at hown
    have HF:Hid (FieldsAt w1.heap.size w1 fv l):=FieldsAt.of_own hown
    have HB1:Hid (Below w.heap.size w w1):=((Below.refl _ _).alloc (Nat.le_refl _) _).trans (hb1.mono (by simp))
    have HR1:Hid (w1.heap[w.heap.size]? = some (BR Re.zero (.slice none 0 0))):=block_step (heap_alloc_new w (BR Re.zero (.slice none 0 0))) hb1
    clear hown hb1
    go_wp2_with fail
    refine (reply_any fv l _ HF.out HLN.out HSM.out).mono ?_
    rintro e w2 ⟨v,rfl,hv2,hb2⟩
    have HES:Hid (∀ x∈(Re.replyOf l).ents,x.1.size<=maxLen):=Re.ent_small HSM.out
    have HCC:Hid (Re.replyOf (Pl.unpOut s.data.toList) = Re.replyOf l):=by show _ = _;rw [HL.out]
    generalize Re.replyOf l = r at *
    have HV2:Hid (At EE (fun b=>w1.heap.size<=b) w2 v r.ents):=hv2
    obtain ⟨ao,cap,hv,-,-⟩:=hv2.open
    obtain ⟨z,hz⟩:∃ z,r.ents.length = z:=⟨_,rfl⟩
    rw [hz] at hv
    subst hv
    have HB2:Hid (Below w.heap.size w w2):=HB1.out.trans (hb2.mono HB1.out.size)
    have HR2:Hid (w2.heap[w.heap.size]? = some (BR Re.zero (.slice none 0 0))):=block_step HR1.out hb2
    have hl2:=block_lt HR2.out
    clear hb2 hv2 hz
    go_wp2_with fail
    refine (repPack_any r _ _ (HV2.out.al _).wide HES.out).mono ?_
    rintro e w3 ⟨rfl,hb3⟩
    have HK3:Hid (w3.heap[w2.heap.size]? = some (BR r (.slice ao z cap))):=block_step (heap_alloc_new w2 _) hb3
    have HR3:Hid (w3.heap[w.heap.size]? = some (BR Re.zero (.slice none 0 0))):=block_step ((Below.heap_alloc _ _ _ hl2).trans HR2.out) hb3
    have HB3:Hid (Below w.heap.size w w3):=(HB2.out.alloc HB2.out.size _).trans (hb3.mono (by have:=HB2.out.size;simp;omega))
    have HV3:Hid (At EE (fun b=>w1.heap.size<=b) w3 (.slice ao z cap) r.ents):=(HV2.out.al _).up hb3
    have HLT:Hid (w.heap.size < w1.heap.size):=block_lt HR1.out
    have fa:∀ j,w3.frozen? ⟨w.heap.size,j,none⟩ = false:=fun j=>by simp [World.frozen?,HR3.out]
    have hl3:w.heap.size < w3.heap.size:=block_lt HR3.out
    obtain ⟨d0,d1,d2,d3,d4,d5,d6,d7,d8,d9⟩:=ten_of HR3.out
    obtain ⟨c0,c1,c2,c3,c4,c5,c6,c7,c8,c9⟩:=ten_of HK3.out
    clear hb3
    by_cases hp:Re.packErr r = 0
    · by_cases hq : Re.packOut r = s
      · have HY := Re.isRep_yes H0.out (by rw [HCC.out]; exact hp) (by rw [HCC.out]; exact hq)
        have H:Hid (C = r/\E = 0):=⟨by rw [← HCE.out.1,HY.1,HCC.out],by rw [← HCE.out.2,HY.2]⟩
        rw [hp,hq]
        have t1:(s.toList == s.toList) = true:=beq_self_eq_true _
        clear hp hq HY
        go_wp2
        refine bodyPost_ret (v:=.tuple #[VR r (.slice ao z cap),.int .i64 0]) (by simp [results,Tryz.results70,go_sem,d0,d1,d2,d3,d4,d5,d6,d7,d8,d9]) rfl ⟨.slice ao z cap,?_,?_,putR_below HB3.out (Nat.le_refl _) r (.slice ao z cap)⟩
        · rw [H.out.1,H.out.2]
        · rw [H.out.1]
          exact (HV3.out.grown (putR_grown w3 w.heap.size r (.slice ao z cap)) (fun g hg hle=>by cases hg;have:=HLT.out;omega)).imp (fun b (hb:w1.heap.size<=b) _=>by have:=HB1.out.size;omega)
      · have HY := Re.isRep_no (s := s) (.inr (.inr (by rw [HCC.out]; exact hq)))
        have H:Hid (C = Re.zero/\E = 4):=⟨by rw [← HCE.out.1,HY.1],by rw [← HCE.out.2,HY.2]⟩
        rw [hp]
        have t1:=str_ne hq
        clear hp hq HY
        generalize Re.packOut r = p at *
        go_wp2
        refine bodyPost_ret (v:=.tuple #[VR Re.zero (.slice none 0 0),.int .i64 4]) (by simp [results,Tryz.results70,go_sem,Re.zero,d0,d1,d2,d3,d4,d5,d6,d7,d8,d9]) rfl ⟨.slice none 0 0,?_,?_,putR_below HB3.out (Nat.le_refl _) Re.zero (.slice none 0 0)⟩
        · rw [H.out.1,H.out.2]
        · rw [H.out.1]
          exact At.nil
    · have HY := Re.isRep_no (s := s) (.inr (.inl (by rw [HCC.out]; exact hp)))
      have H:Hid (C = Re.zero/\E = 4):=⟨by rw [← HCE.out.1,HY.1],by rw [← HCE.out.2,HY.2]⟩
      have hp':Re.packErr r = 4:=by unfold Re.packErr at hp ⊢;split at hp <;> simp_all
      rw [hp']
      clear hp hp' HY
      generalize Re.packOut r = p at *
      go_wp2
      refine bodyPost_ret (v:=.tuple #[VR Re.zero (.slice none 0 0),.int .i64 4]) (by simp [results,Tryz.results70,go_sem,Re.zero,d0,d1,d2,d3,d4,d5,d6,d7,d8,d9]) rfl ⟨.slice none 0 0,?_,?_,putR_below HB3.out (Nat.le_refl _) Re.zero (.slice none 0 0)⟩
      · rw [H.out.1,H.out.2]
      · rw [H.out.1]
        exact At.nil
  · have H1 := Re.isRep_no (.inl h0)
    have H:Hid (C = Re.zero/\E = 4):=⟨HCE.out.1.symm.trans H1.1,HCE.out.2.symm.trans H1.2⟩
    obtain ⟨q,hq⟩:∃ q,Pl.unpErr s.data.toList = q:=⟨_,rfl⟩
    have hq1:(q != 0) = true:=by rw [← hq];simpa using h0
    have HQ:Hid (Pl.unpErr s.data.toList = q):=hq
    clear h0 H1 hq
    go_enter Tryz.func70,Tryz.ntmps70
    go_wp2_with fail
    refine (unpack_any s _ HS.out).mono ?_
    rintro e w1 ⟨fv,rfl,hown,hb1⟩
    rw [HQ.out]
    have HB1:Hid (Below w.heap.size w w1):=((Below.refl _ _).alloc (Nat.le_refl _) _).trans (hb1.mono (by simp))
    have HR1:Hid (w1.heap[w.heap.size]? = some (BR Re.zero (.slice none 0 0))):=block_step (heap_alloc_new w (BR Re.zero (.slice none 0 0))) hb1
    have fa:∀ j,w1.frozen? ⟨w.heap.size,j,none⟩ = false:=fun j=>by simp [World.frozen?,HR1.out]
    have hl3:w.heap.size < w1.heap.size:=block_lt HR1.out
    obtain ⟨d0,d1,d2,d3,d4,d5,d6,d7,d8,d9⟩:=ten_of HR1.out
    clear hown hb1
    go_wp2
    refine bodyPost_ret (v:=.tuple #[VR Re.zero (.slice none 0 0),.int .i64 4]) (by simp [results,Tryz.results70,go_sem,Re.zero,d0,d1,d2,d3,d4,d5,d6,d7,d8,d9]) rfl ⟨.slice none 0 0,?_,?_,putR_below HB1.out (Nat.le_refl _) Re.zero (.slice none 0 0)⟩
    · rw [H.out.1,H.out.2]
    · rw [H.out.1]
      exact At.nil
theorem repUnpack_any (s:ByteArray) (w:World) (hs:s.size<=1048576) :
    Calls Tryz.prog 70 #[.string s] w fun e w'=>∃ v,e = .returned (.tuple #[VR (Re.unpR s.data.toList) v,.int .i64 (Re.unpE s.data.toList)])/\AtW EE w' v (Re.unpR s.data.toList).ents/\Below w.heap.size w w' :=
  (repUnpack_at s w hs).mono fun _ _ ⟨v,he,hv,hb⟩=>⟨v,he,hv.wide,hb⟩
end Go.Proofs.YtggoccfddnpelaaGreat.Ks.Rs
namespace Go.Proofs.YtggoccfddnpelaaGreat
open Go.ChangeShapes Go.WideShapes Go.ChangeAt Go.RowKit Go.Deep It
set_option maxRecDepth 100000
namespace Fst
section
variable {P:Program} {ops:Array Oper} {Q:Exit->Act->World->Prop} {md:Region.Mode} {S:World->Prop} {late:Nat->Bool}
theorem keep_step {i:Nat} {oi:Oper} {n:Nat} {l:Array Bool} {a:Act} {w:World} (hi:ops[i]? = some oi)
    (h:∀ K':Act->World->Prop,(∀ a w,S w->anyL P md ops Q late S n (l.setIfInBounds i true) a w->K' a w)->if Region.wanted oi (yielded ops a.tmps) = true then Oper.wp P oi a w K' Q else K' (a.put oi.dst undef) w) :
    wpOp P ops Q i (fun a' w'=>Sl late S (l.setIfInBounds i true) w'/\anyL P md ops Q late S n (l.setIfInBounds i true) a' w') a w:=by
  have:=h (fun a' w'=>Sl late S (l.setIfInBounds i true) w'/\anyL P md ops Q late S n (l.setIfInBounds i true) a' w') (fun a' w' hS h=>⟨.inr hS,h⟩)
  unfold wpOp
  simp only [hi]
  split
  · rename_i hw;rw [if_pos hw] at this;exact .inl this
  · rename_i hw;rw [if_neg hw] at this;exact this
/-- One may come up, behind which S holds still. -/
theorem one {i:Nat} {oi:Oper} {n:Nat} {l:Array Bool} {a:Act} {w:World} (hr:Region.ready md ops l = [i]) (hi:ops[i]? = some oi)
    (h1:∀ K':Act->World->Prop,(∀ a w,S w->anyL P md ops Q late S n (l.setIfInBounds i true) a w->K' a w)->if Region.wanted oi (yielded ops a.tmps) = true then Oper.wp P oi a w K' Q else K' (a.put oi.dst undef) w):anyL P md ops Q late S (n + 1) l a w:=by
  refine ⟨fun h=>(by rw [hr] at h;cases h),fun k hk=>?_⟩
  rw [hr] at hk
  rcases List.mem_cons.1 hk with rfl | hk
  · exact keep_step hi h1
  · cases hk
end
end Fst
end Go.Proofs.YtggoccfddnpelaaGreat
