/- Plain, Row, Base, Own, Rg, PlainS, OPlain, OBase, FTwo, FRefB, TPlain, TPlainU, KPlain, TNum, KBase, FRefD, FRefE, RNm, RRt0, FPlainH, Sta, Sta1, BPlain, BBase, BPlainW, as one. -/
import Derived.WalkKit
import Derived.ProofKit
import Derived.Deep.AppendSrc
import Derived.Deep.DeepAppendWide
import Derived.WalkSmall
import Derived.BigQuiet
import Derived.Deep.QuietTactic
import Derived.WalkSpells
import Derived.WalkLawsBesides
import Derived.Deep.RegionHeld3
import Derived.Deep.SlicePairs
import Derived.Laws.ResultCell
import Derived.RangeFuncNested
import Derived.RangeFuncBound
import Derived.RangeFuncCalls
import Derived.RangeFuncLeaves
import Derived.Lib.IndexBytes
import Derived.Laws.BytesArg
import Derived.Deep.OwnRows
import Derived.Test.YtneojimodomohaaGreatV34
namespace Go.Proofs.YtneojimodomohaaGreat
set_option maxRecDepth 100000
namespace It
theorem one_gone {g:Int} (hg:1<=g/\g<=1099511627776):one (gone g) = true:=by
 rw [gone,one_free hg (At.right_iff.2 (.inl ⟨rfl,rfl,rfl,rfl⟩))]
 rfl
theorem names_at {L M:List Ino} {k:Nat} {gen:Int} (h:M[k]? = L[k]?):names M k gen = names L k gen:=by
 unfold names
 rw [show ((k:Int)).toNat = k from by omega,h]
theorem names_some {L:List Ino} {k:Nat} {gen:Int} {x:Ino} (h:L[k]? = some x):names L k gen = decide (x.gen = gen/\x.kind≠0):=by
 unfold names
 rw [show ((k:Int)).toNat = k from by omega,h,decide_eq_true (show (0:Int)<=(k:Int) by omega)]
 rfl
theorem find_err {T:List Ino} (h:right T = true) (a b:Int):findErr T a b = if names T a b then 0 else 401:=by unfold findErr;rw [if_pos h]
end It
end Go.Proofs.YtneojimodomohaaGreat
namespace Go.Proofs.YtneojimodomohaaGreat.Os
open Go.RowKit
set_option maxRecDepth 100000
namespace Op
theorem right_one {l:List Opn} (h:right 0 l = true) {i j:Nat} {x y:Opn} (hx:l[i]? = some x) (hy:l[j]? = some y) (he:x.1 = y.1):x = y:=by
 have key:∀ (l:List Opn) (t:Int),right t l = true->∀ (i j:Nat) (x y:Opn),i < j->l[i]? = some x->l[j]? = some y->x.1 < y.1:=by
  intro l
  induction l with
  | nil=>intro t _ i j x y _ hx;simp at hx
  | cons z r ih =>
   intro t h i j x y hij hx hy
   simp [right] at h
   cases j with
   | zero=>omega
   | succ j =>
    cases i with
    | zero =>
     simp at hx
     subst hx
     have:=right_all r _ h.2 j y (by simpa using hy)
     omega
    | succ i=>exact ih _ h.2 i j x y (by omega) (by simpa using hx) (by simpa using hy)
 rcases Nat.lt_trichotomy i j with hl | hl | hl
 ·have:=key l 0 h i j x y hl hx hy
  omega
 ·subst hl
  rw [hx] at hy
  cases hy
  rfl
 ·have:=key l 0 h j i y x hl hy hx
  omega
theorem least_low {l:List Opn} {j:Nat} (h:j < least 0 l):∃ x,l[j]? = some x/\x.1 = (j:Int):=by
 obtain ⟨x,h1,h2⟩:=(least_all l 0).2.2.1 j (by omega)
 exact ⟨x,h1,by rw [h2];congr 1;omega⟩
theorem least_high {l:List Opn} (hr:right 0 l = true) {j:Nat} {x:Opn} (h:least 0 l<=j) (hx:l[j]? = some x):(least 0 l:Int) < x.1:=by
 have h1:=(right_all l 0 hr j x hx).1
 by_cases e:j = least 0 l
 ·have:=(least_all l 0).2.2.2 x (by rw [Nat.sub_zero,← e];exact hx)
  omega
 ·omega
theorem low_fd {l:List Opn} {x:Opn} {j:Nat} (hj:j < least 0 l) (hx:l[j]? = some x):x.1 = (j:Int):=by
 obtain ⟨y,h1,h2⟩:=least_low hj
 rw [hx] at h1
 cases h1
 exact h2
theorem without_one {l:List Opn} (hr:right 0 l = true) {c fd:Int} {x:Opn} (h:l.find? (mine c fd) = some x):without l [x] = l.filter fun y=>!(mine c fd y):=by
 have hm:=List.find?_some h
 have hx:=List.mem_of_find?_eq_some h
 unfold without
 refine List.filter_congr fun y hy=>?_
 simp only [List.mem_singleton]
 by_cases e:y = x
 ·subst e
  simp [hm]
 ·have:mine c fd y = false:=by
   cases hy':mine c fd y
   ·rfl
   ·refine absurd ?_ e
    obtain ⟨i,hi⟩:=List.mem_iff_getElem?.1 hx
    obtain ⟨j,hj⟩:=List.mem_iff_getElem?.1 hy
    simp [mine] at hm hy'
    exact right_one hr hj hi (by omega)
  simp [e,this]
theorem mine_one {l:List Opn} (hr:right 0 l = true) {c fd:Int} {x y:Opn} (hx:x∈l) (hy:y∈l) (h1:mine c fd x = true) (h2:mine c fd y = true):x = y:=by
 obtain ⟨i,hi⟩:=List.mem_iff_getElem?.1 hx
 obtain ⟨j,hj⟩:=List.mem_iff_getElem?.1 hy
 simp [mine] at h1 h2
 exact right_one hr hi hj (by omega)
end Op
end Go.Proofs.YtneojimodomohaaGreat.Os
namespace Go.Proofs.YtneojimodomohaaGreat
open Go.ChangeShapes Go.WideShapes Go.ChangeAt Go.RowKit Go.Deep
set_option maxRecDepth 100000
namespace Fo
theorem right_0:Right [] 0:=⟨by decide,fun i h=>by simp at h,List.nodup_nil⟩
end Fo
namespace Fo
theorem called_iff {s:ByteArray} {x:Ent}:called s x = true ↔ x.1 = s:=by
  unfold called
  rw [beq_iff_eq,ByteArray.toList_eq,ByteArray.toList_eq]
  constructor
  · intro h
    obtain ⟨⟨⟨a⟩⟩,c⟩:=x
    obtain ⟨⟨b⟩⟩:=s
    simp only at h
    simp [h]
  · rintro rfl
    rfl
end Fo
end Go.Proofs.YtneojimodomohaaGreat
namespace Go.Proofs.YtneojimodomohaaGreat
open Go.ChangeShapes Go.WideShapes Go.ChangeAt Go.RowKit Go.Deep It
set_option maxRecDepth 100000
def Sp.toI (no:Int) (e:Sp.En):Bool:=e.2.2.1 == no
/-- How many entries name an inode's number. -/
def Sp.nmv (L:List Ino) (no:Int):Nat:=(Sp.allEnts L).countP (Sp.toI no)
end Go.Proofs.YtneojimodomohaaGreat
namespace Go.Proofs.YtneojimodomohaaGreat
open It
set_option maxRecDepth 100000
namespace Sp
def num (L:List Ino) (i:Nat) (x:Ino):Prop:=(x.kind = 1->(nmv L i:Int) = x.links)/\(x.kind = 2->0 < i->(nmv L i:Int) = 1)/\(i = 0->(nmv L i:Int) = 0)
def okAt (L:List Ino) (i:Nat) (x:Ino):Prop:=fold x/\(x.kind = 2->∀ e∈x.ents,names L e.2.2.1 e.2.2.2 = true)/\num L i x
def okAll (L:List Ino):Prop:=∀ i x,L[i]? = some x->okAt L i x
theorem nmv_cnt {L:List Ino} (hn:∀ e∈allEnts L,names L e.2.2.1 e.2.2.2 = true) {i:Nat} {x:Ino} (hx:L[i]? = some x):nmv L i = cnt L ((i:Int),x.gen):=by
 unfold nmv cnt
 refine List.countP_congr fun e he=>?_
 obtain ⟨j,y,hy,hno,hg,_⟩:=names_iff.1 (hn e he)
 simp only [toI,beq_iff_eq]
 constructor
 ·intro h2
  have:j = i:=by omega
  subst this
  rw [hx] at hy
  cases hy
  exact Prod.ext h2 hg.symm
 ·intro h2
  rw [h2]
theorem root_kind {L:List Ino} (h:It.right L = true) {x:Ino} (hx:L[0]? = some x):x.kind = 2:=by
 have hr:=(It.right_iff.1 h).2.1
 unfold rootB at hr
 cases L with
 | nil=>cases hr
 | cons y l =>
  simp at hx
  subst hx
  simp at hr
  exact hr
theorem isSp_ok {L:List Ino} (h:isSp L = true):okAll L:=by
 obtain ⟨h1,h2,h3,_⟩:=isSp_iff.1 h
 have hn:∀ e∈allEnts L,names L e.2.2.1 e.2.2.2 = true:=fun e he=>(ent_named h1 h3 he).1
 intro i x hx
 have hv:=(cntB_iff h1).1 h3 ((i:Int),x.gen)
 rw [← nmv_cnt hn hx,start_val h1] at hv
 have hl:lkOf L (i:Int) = x.links:=by
  unfold lkOf
  rw [show ((i:Int)).toNat = i by omega,hx,Option.getD_some]
 have hg0:i = 0->x.gen = gen0 L:=fun h0=>by
  subst h0
  unfold gen0
  rw [hx,Option.getD_some]
 refine ⟨h2 x (List.mem_of_getElem? hx),fun hk e he=>hn e (List.mem_flatMap.2 ⟨x,List.mem_of_getElem? hx,he⟩),fun hk=>?_,fun hk h0=>?_,fun h0=>?_⟩
 ·rw [if_neg (fun he=>by
   have:(i:Int) = 0:=congrArg Prod.fst he
   have hi:i = 0:=by omega
   subst hi
   have:=root_kind h1 hx
   omega),if_pos (names_iff.2 ⟨i,x,hx,rfl,rfl,by omega⟩),hl] at hv
  exact hv
 ·rw [if_neg (fun he=>by
   have:(i:Int) = 0:=congrArg Prod.fst he
   omega),if_pos (names_iff.2 ⟨i,x,hx,rfl,rfl,by omega⟩),hl,dir_links h1 hx hk] at hv
  exact hv
 ·rw [if_pos (by rw [hg0 h0,h0];rfl)] at hv
  exact hv
theorem ok_named {L:List Ino} (h:It.right L = true) (ho:okAll L):∀ e∈allEnts L,names L e.2.2.1 e.2.2.2 = true:=fun e he=>by
 obtain ⟨p,x,hx,hex⟩:=all_mem he
 exact (ho p x hx).2.1 (ents_dir h hx hex) e hex
theorem ok_folds {L:List Ino} (ho:okAll L):folds L:=fun x hx=>by
 obtain ⟨p,hp⟩:=List.mem_iff_getElem?.1 hx
 exact (ho p x hp).1
theorem ok_cntB {L:List Ino} (h:It.right L = true) (ho:okAll L):cntB L = true:=by
 have hn:=ok_named h ho
 refine (cntB_iff h).2 fun g=>?_
 rw [start_val h]
 have hlen:=right_len h
 have h0x:L[0]? = some L[0]:=List.getElem?_eq_getElem (by omega)
 by_cases h0:g = (0,gen0 L)
 ·rw [if_pos h0]
  have h1:=(ho 0 _ h0x).2.2.2.2 rfl
  rw [nmv_cnt hn h0x] at h1
  have e:gen0 L = L[0].gen:=by unfold gen0;rw [h0x,Option.getD_some]
  rw [h0,e]
  exact h1
 ·rw [if_neg h0]
  by_cases h1:names L g.1 g.2 = true
  ·rw [if_pos h1]
   obtain ⟨i,x,hx,hno,hg,hk⟩:=names_iff.1 h1
   have eg:g = ((i:Int),x.gen):=Prod.ext hno hg.symm
   have hl:lkOf L g.1 = x.links:=by
    unfold lkOf
    rw [hno,show ((i:Int)).toNat = i by omega,hx,Option.getD_some]
   rw [hl,eg,← nmv_cnt hn hx]
   have hnum:=(ho i x hx).2.2
   have hone:=(It.right_iff.1 h).2.2 x (List.mem_of_getElem? hx)
   unfold one at hone
   simp only [Bool.and_eq_true] at hone
   by_cases hk2:x.kind = 2
   ·rw [dir_links h hx hk2]
    refine hnum.2.1 hk2 ?_
    by_cases hi:i = 0
    ·exfalso
     subst hi
     refine h0 (eg.trans ?_)
     unfold gen0
     rw [hx,Option.getD_some]
     rfl
    ·omega
   ·refine hnum.1 ?_
    rcases At.right_iff.1 hone.2.1 with ⟨h3,_⟩ | ⟨_,_,⟨h3,_⟩ | ⟨h3,_⟩⟩
    ·exact (hk h3).elim
    ·exact h3
    ·exact (hk2 h3).elim
  ·rw [if_neg h1]
   have:cnt L g = 0:=List.countP_eq_zero.2 fun e he hc=>h1 (by
    have e2:e.2.2 = g:=by simpa using hc
    rw [← e2]
    exact hn e he)
   rw [this]
   rfl
end Sp
end Go.Proofs.YtneojimodomohaaGreat
namespace Go.Proofs.YtneojimodomohaaGreat
set_option maxRecDepth 100000
namespace Fo
theorem called_not {s:ByteArray} {x:Ent}:called s x = false ↔ x.1≠s:=by
 rw [← Bool.not_eq_true,called_iff]
theorem okE_mono {next next':Int} {x:Ent} (h:okE next x) (hn:next<=next'):okE next' x:=⟨h.1,⟨h.2.1.1,by have:=h.2.1.2;omega⟩,h.2.2⟩
theorem right_add {l:List Ent} {next:Int} {s:ByteArray} {no gen:Int} (h:Right l next) (hs:Nm.ok s) (ho:Ho no gen) (ha:at' (called s) l = -1) (hn:next < 1099511627776):Right (l ++ [(s,next + 1,no,gen)]) (next + 1):=by
 obtain ⟨h1,h2,h3,h4⟩:=right_iff.1 h
 have hno:∀ x∈l,x.1≠s:=by
  rcases at_or (called s) l with ⟨-,hall⟩ | ⟨k,x,ht,-,-,-⟩
  ·exact fun x hx=>called_not.1 (hall x hx)
  ·rw [ha] at ht
   omega
 refine right_iff.2 ⟨⟨by omega,by omega⟩,fun x hx=>?_,?_,?_⟩
 ·rcases List.mem_append.1 hx with hx | hx
  ·exact okE_mono (h2 x hx) (by omega)
  ·simp at hx
   subst hx
   exact ⟨hs,⟨by simp;omega,by simp⟩,ho⟩
 ·rw [List.pairwise_append]
  refine ⟨h3,by simp,fun a ha b hb=>?_⟩
  simp at hb
  subst hb
  have:=(h2 a ha).2.1.2
  simp
  omega
 ·unfold apart at h4 ⊢
  rw [List.map_append,List.nodup_append]
  refine ⟨h4,by simp,fun a hma b hb=>?_⟩
  simp at hb
  subst hb
  obtain ⟨x,hx,rfl⟩:=List.mem_map.1 hma
  exact hno x hx
theorem right_cut {l:List Ent} {next:Int} (h:Right l next) (k:Nat):Right (l.eraseIdx k) next:=by
 obtain ⟨h1,h2,h3,h4⟩:=right_iff.1 h
 have hsub:=List.eraseIdx_sublist l k
 refine right_iff.2 ⟨h1,fun x hx=>h2 x (hsub.mem hx),h3.sublist hsub,?_⟩
 unfold apart at h4 ⊢
 exact (hsub.map _).nodup h4
end Fo
end Go.Proofs.YtneojimodomohaaGreat
namespace Go.Proofs.YtneojimodomohaaGreat
open It
set_option maxRecDepth 100000
namespace Sp
theorem cset (q:En->Bool):∀ (L:List Ino) (k:Nat) (x y:Ino),L[k]? = some x->(allEnts (L.set k y)).countP q + x.ents.countP q = (allEnts L).countP q + y.ents.countP q
 | [],k,x,y,h=>by simp at h
 | z :: L,0,x,y,h=>by
  simp at h
  subst h
  simp only [allEnts,List.set_cons_zero,List.flatMap_cons,List.countP_append]
  omega
 | z :: L,k + 1,x,y,h=>by
  have ih:=cset q L k x y (by simpa using h)
  unfold allEnts at ih ⊢
  rw [List.set_cons_succ,List.flatMap_cons,List.flatMap_cons,List.countP_append,List.countP_append]
  omega
theorem cerase (q:En->Bool):∀ (l:List En) (j:Nat) (e:En),l[j]? = some e->(l.eraseIdx j).countP q + (if q e = true then 1 else 0) = l.countP q
 | [],j,e,h=>by simp at h
 | z :: l,0,e,h=>by
  simp at h
  subst h
  rw [List.eraseIdx_cons_zero,List.countP_cons]
 | z :: l,j + 1,e,h=>by
  have ih:=cerase q l j e (by simpa using h)
  rw [List.eraseIdx_cons_succ,List.countP_cons,List.countP_cons]
  omega
theorem erase_sup {l:List En} {j:Nat} {e:En} (h:l[j]? = some e):∀ x∈l,x∈l.eraseIdx j∨x = e:=by
 intro x hx
 obtain ⟨i,hi⟩:=List.mem_iff_getElem?.1 hx
 by_cases hij:i = j
 ·subst hij
  rw [h] at hi
  exact .inr (Option.some.inj hi).symm
 ·left
  rcases Nat.lt_or_gt_of_ne hij with h1 | h1
  ·exact List.mem_of_getElem? (i:=i) (by rw [List.getElem?_eraseIdx,if_pos h1];exact hi)
  ·refine List.mem_of_getElem? (i:=i - 1) ?_
   rw [List.getElem?_eraseIdx,if_neg (by omega),show i - 1 + 1 = i by omega]
   exact hi
theorem isSp_mk {L:List Ino} (hr:It.right L = true) (ho:okAll L) (ha:∀ c,dirAt L c = true->∃ d,Anc L d 0 c):isSp L = true :=
 isSp_iff.2 ⟨hr,ok_folds ho,ok_cntB hr ho,(reachB_iff (tree_of hr (ok_folds ho) (ok_cntB hr ho)) (right_len hr).2).2 ha⟩
theorem isSp_reach {L:List Ino} (hs:isSp L = true) {c:Nat} (hc:dirAt L c = true):∃ d,Anc L d 0 c:=by
 obtain ⟨h1,_,_,h4⟩:=isSp_iff.1 hs
 exact (reachB_iff (isSp_tree hs) (right_len h1).2).1 h4 c hc
theorem dirAt_iff {L:List Ino} {c:Nat}:dirAt L c = true ↔ ∃ x,L[c]? = some x/\x.kind = 2:=by
 unfold dirAt
 cases h:L[c]? with
 | none=>simp
 | some x=>simp
theorem child_iff {L:List Ino} {p c:Nat}:Child L p c ↔ (∃ x,L[p]? = some x/\∃ e∈x.ents,e.2.2.1 = (c:Int))/\dirAt L c = true:=by
 unfold Child
 refine and_congr ⟨?_,?_⟩ Iff.rfl
 ·rintro ⟨e,he,hc⟩
  obtain ⟨x,hx,hex⟩:=mem_entsAt.1 he
  exact ⟨x,hx,e,hex,by simpa [toNo] using hc⟩
 ·rintro ⟨x,hx,e,he,hc⟩
  exact ⟨e,mem_entsAt.2 ⟨x,hx,he⟩,by simp [toNo,hc]⟩
theorem anc_mono {L L':List Ino} (h:∀ p c,Child L p c->Child L' p c):∀ (d a c:Nat),Anc L d a c->Anc L' d a c
 | 0,_,_,ha=>ha
 | d + 1,a,c,ha=>by
  obtain ⟨p,h1,h2⟩:=ha
  exact ⟨p,anc_mono h d a p h1,h p c h2⟩
theorem get_two {L:List Ino} {kc kt:Nat} {xc xt y z:Ino} (hne:kc≠kt) (hc:L[kc]? = some xc) (ht:L[kt]? = some xt) (i:Nat):((L.set kc y).set kt z)[i]? = if i = kt then some z else if i = kc then some y else L[i]?:=by
 have hcl:=(qM hc)
 have htl:=(qM ht)
 rw [List.getElem?_set]
 by_cases h1:i = kt
 ·subst h1
  simp [htl]
 ·rw [if_neg (fun h=>h1 h.symm),if_neg h1,List.getElem?_set]
  by_cases h2:i = kc
  ·subst h2
   simp [hcl]
  ·rw [if_neg (fun h=>h2 h.symm),if_neg h2]
theorem names_to {L L':List Ino} {a b:Int} (h:names L a b = true) (hK:∀ (k:Nat) x,L[k]? = some x->a = k->x.kind≠0->∃ x',L'[k]? = some x'/\x'.gen = x.gen/\x'.kind = x.kind):names L' a b = true:=by
 obtain ⟨i,x,hx,hno,hg,hk⟩:=names_iff.1 h
 obtain ⟨x',h1,h2,h3⟩:=hK i x hx hno hk
 exact names_iff.2 ⟨i,x',h1,hno,by rw [h2];exact hg,by rw [h3];exact hk⟩
theorem all_of {L:List Ino} {p:Nat} {x:Ino} {e:En} (h:L[p]? = some x) (he:e∈x.ents):e∈allEnts L:=List.mem_flatMap.2 ⟨x,List.mem_of_getElem? h,he⟩
theorem stays_file {L:List Ino} {kc kt:Nat} {xc xt:Ino} {es:List Ent} {nx st n:Int} (hs:isSp L = true) (hc:L[kc]? = some xc) (hk:xc.kind = 2) (ht:L[kt]? = some xt) (hkt:xt.kind = 1) (hst:0<=st/\st<=1099511627776)
  (hR:Fo.Right es nx) (hlen:es.length<=1048576) (hlk:0<=xt.links + n/\xt.links + n<=64) (hcount:∀ i:Int,(es.countP (toI i):Int) = xc.ents.countP (toI i) + (if i = kt then n else 0))
  (hmem:∀ e∈es,e∈xc.ents∨e.2.2 = ((kt:Int),xt.gen)) (hsup:∀ e∈xc.ents,e∈es∨e.2.2.1 = kt):isSp ((L.set kc (filled xc es nx st)).set kt (linked xt n st)) = true:=by
 have h1:=(isSp_iff.1 hs).1
 have ho:=isSp_ok hs
 have hne:kc≠kt:=by
  rintro rfl
  rw [hc] at ht
  cases ht
  omega
 have hone:=(It.right_iff.1 h1).2.2
 obtain ⟨L',hL'⟩:∃ L',L' = (L.set kc (filled xc es nx st)).set kt (linked xt n st):=⟨_,rfl⟩
 have hg:∀ i,L'[i]? = if i = kt then some (linked xt n st) else if i = kc then some (filled xc es nx st) else L[i]?:=by
  rw [hL']
  exact get_two hne hc ht
 have ht1:(L.set kc (filled xc es nx st))[kt]? = some xt:=by rw [List.getElem?_set_ne hne];exact ht
 have hr:It.right L' = true:=by
  rw [hL']
  have r1:=right_set h1 hc (one_filled (hone xc (List.mem_of_getElem? hc)) hk hst hlen (nx:=nx)) rfl
  exact right_set r1 ht1 (one_linked (hone xt (List.mem_of_getElem? ht)) hkt hst hlk) rfl
 have hn:∀ i:Int,(nmv L' i:Int) = nmv L i + (if i = kt then n else 0):=by
  intro i
  have c1:=cset (toI i) L kc xc (filled xc es nx st) hc
  have c2:=cset (toI i) (L.set kc (filled xc es nx st)) kt xt (linked xt n st) ht1
  have c3:=hcount i
  have e1:(filled xc es nx st).ents = es:=rfl
  have e2:(linked xt n st).ents = xt.ents:=rfl
  rw [e1] at c1
  rw [e2] at c2
  rw [hL']
  unfold nmv
  omega
 rw [← hL']
 have hkeep:∀ (k:Nat) x,L[k]? = some x->∃ x',L'[k]? = some x'/\x'.gen = x.gen/\x'.kind = x.kind:=by
  intro k x hx
  rw [hg]
  by_cases e1:k = kt
  ·subst e1
   rw [ht] at hx
   cases hx
   exact ⟨_,if_pos rfl,rfl,rfl⟩
  ·rw [if_neg e1]
   by_cases e2:k = kc
   ·subst e2
    rw [hc] at hx
    cases hx
    exact ⟨_,if_pos rfl,rfl,rfl⟩
   ·rw [if_neg e2]
    exact ⟨x,hx,rfl,rfl⟩
 have hnm:∀ a b,names L a b = true->names L' a b = true:=fun a b h=>names_to h fun k x hx _ _=>hkeep k x hx
 have hnt:names L kt xt.gen = true:=names_iff.2 ⟨kt,xt,ht,rfl,rfl,by omega⟩
 have hall:∀ e∈allEnts L,names L e.2.2.1 e.2.2.2 = true:=ok_named h1 ho
 have hk0:kt≠0:=by
  rintro rfl
  have:=root_kind h1 ht
  omega
 refine isSp_mk hr (fun i x' hx'=>?_) fun c hd=>?_
 ·rw [hg] at hx'
  have hni:=hn (i:Int)
  split at hx'
  ·rename_i e1
   cases hx'
   subst e1
   obtain ⟨_,_,n1,n2,n3⟩:=ho i xt ht
   rw [if_pos rfl] at hni
   refine ⟨fun h=>?_,fun h=>?_,fun h=>?_,fun h=>?_,fun h=>absurd h hk0⟩
   ·have h2:xt.kind = 2:=h
    omega
   ·have h2:xt.kind = 2:=h
    omega
   ·have h3:=n1 hkt
    show (nmv L' i:Int) = xt.links + n
    omega
   ·have h2:xt.kind = 2:=h
    omega
  ·rename_i e1
   rw [if_neg (by omega)] at hni
   split at hx'
   ·rename_i e2
    cases hx'
    subst e2
    obtain ⟨_,_,n1,n2,n3⟩:=ho i xc hc
    refine ⟨fun _=>⟨hR,rfl⟩,fun _ e he=>?_,fun h=>?_,fun h h0=>?_,fun h=>?_⟩
    ·rcases hmem e he with h | h
     ·exact hnm _ _ (hall e (all_of hc h))
     ·rw [h]
      exact hnm _ _ hnt
    ·have h2:xc.kind = 1:=h
     omega
    ·have:=n2 hk h0
     omega
    ·have:=n3 h
     omega
   ·obtain ⟨o1,o2,n1,n2,n3⟩:=ho i x' hx'
    refine ⟨o1,fun h e he=>hnm _ _ (o2 h e he),fun h=>?_,fun h h0=>?_,fun h=>?_⟩
    ·have:=n1 h
     omega
    ·have:=n2 h h0
     omega
    ·have:=n3 h
     omega
 ·have hdl:∀ c,dirAt L' c = true->dirAt L c = true:=fun c hd=>by
   obtain ⟨x',hx',hk'⟩:=dirAt_iff.1 hd
   rw [hg] at hx'
   split at hx'
   ·cases hx'
    have h2:xt.kind = 2:=hk'
    omega
   ·split at hx'
    ·rename_i e2
     subst e2
     exact dirAt_iff.2 ⟨xc,hc,hk⟩
    ·exact dirAt_iff.2 ⟨x',hx',hk'⟩
  have hdr:∀ c,dirAt L c = true->dirAt L' c = true:=fun c hd=>by
   obtain ⟨x,hx,hkx⟩:=dirAt_iff.1 hd
   obtain ⟨x',h1,_,h3⟩:=hkeep c x hx
   exact dirAt_iff.2 ⟨x',h1,by rw [h3];exact hkx⟩
  obtain ⟨d,ha⟩:=isSp_reach hs (hdl c hd)
  refine ⟨d,anc_mono (fun p c hpc=>?_) d 0 c ha⟩
  obtain ⟨⟨x,hx,e,he,hec⟩,hdc⟩:=child_iff.1 hpc
  refine child_iff.2 ⟨?_,hdr c hdc⟩
  rw [hg]
  by_cases e1:p = kt
  ·subst e1
   rw [ht] at hx
   cases hx
   exact ⟨_,if_pos rfl,e,he,hec⟩
  ·rw [if_neg e1]
   by_cases e2:p = kc
   ·subst e2
    rw [hc] at hx
    cases hx
    rcases hsup e he with h | h
    ·exact ⟨_,if_pos rfl,e,h,hec⟩
    ·exfalso
     obtain ⟨x,hx,hkx⟩:=dirAt_iff.1 hdc
     have:c = kt:=by omega
     subst this
     rw [ht] at hx
     cases hx
     omega
   ·rw [if_neg e2]
    exact ⟨x,hx,e,he,hec⟩
theorem stays_mk {L:List Ino} {kc nn:Nat} {xc:Ino} {es:List Ent} {nx st g kind:Int} {e2:Ent} (hs:isSp L = true) (hc:L[kc]? = some xc) (hk:xc.kind = 2) (hkind:kind = 1∨kind = 2) (hnn:(∃ x0,L[nn]? = some x0/\x0.kind = 0)∨nn = L.length) (hn0:1<=nn)
  (hr1:It.right (put L nn (fresh g kind st)) = true) (hst:0<=st/\st<=1099511627776) (hR:Fo.Right es nx) (hlen:es.length<=1048576) (he:es = xc.ents ++ [e2]) (hto:e2.2.2 = ((nn:Int),g)) :
  isSp ((put L nn (fresh g kind st)).set kc (filled xc es nx st)) = true:=by
 have h1:=(isSp_iff.1 hs).1
 have ho:=isSp_ok hs
 have hnl:nn<=L.length:=by
  rcases hnn with ⟨x0,hx0,_⟩ | h
  ·exact Nat.le_of_lt (qM hx0)
  ·omega
 have hne:kc≠nn:=by
  rintro rfl
  rcases hnn with ⟨x0,hx0,hk0⟩ | h
  ·rw [hc] at hx0
   cases hx0
   omega
  ·have:=(qM hc)
   omega
 have hg1:=put_at (x:=fresh g kind st) hnl
 have hc1:(put L nn (fresh g kind st))[kc]? = some xc:=by rw [hg1,if_neg hne];exact hc
 have hcl:=(qM hc1)
 obtain ⟨L',hL'⟩:∃ L',L' = (put L nn (fresh g kind st)).set kc (filled xc es nx st):=⟨_,rfl⟩
 have hg:∀ i,L'[i]? = if i = kc then some (filled xc es nx st) else if i = nn then some (fresh g kind st) else L[i]?:=by
  intro i
  rw [hL',List.getElem?_set]
  by_cases h:i = kc
  ·subst h
   simp [hcl]
  ·rw [if_neg (fun e=>h e.symm),if_neg h]
   exact hg1 i
 have hr:It.right L' = true:=by
  rw [hL']
  exact right_set hr1 hc1 (one_filled ((It.right_iff.1 hr1).2.2 xc (List.mem_of_getElem? hc1)) hk hst hlen (nx:=nx)) rfl
 have hnone:∀ x,L[nn]? = some x->x.kind = 0:=by
  intro x hx
  rcases hnn with ⟨x0,hx0,hk0⟩ | h
  ·rw [hx] at hx0
   cases hx0
   exact hk0
  ·rw [h] at hx
   simp at hx
 have hall:∀ e∈allEnts L,names L e.2.2.1 e.2.2.2 = true:=ok_named h1 ho
 have hz:nmv L (nn:Int) = 0:=by
  unfold nmv
  refine List.countP_eq_zero.2 fun e hem hq=>?_
  obtain ⟨i,x,hx,hno,_,hkx⟩:=names_iff.1 (hall e hem)
  have hq':e.2.2.1 = (nn:Int):=by simpa [toI] using hq
  have:i = nn:=by omega
  subst this
  exact hkx (hnone x hx)
 have hput:∀ q,(allEnts (put L nn (fresh g kind st))).countP q = (allEnts L).countP q:=by
  intro q
  unfold put
  split
  ·rename_i hlt
   have hx0:L[nn]? = some L[nn]:=List.getElem?_eq_getElem hlt
   have c1:=cset q L nn _ (fresh g kind st) hx0
   have e0:L[nn].ents = []:=by
    cases hl:L[nn].ents with
    | nil=>rfl
    | cons e r =>
     have h2:=ents_dir h1 hx0 (e:=e) (by rw [hl];simp)
     have h3:=hnone _ hx0
     omega
   have e1:(fresh g kind st).ents = []:=rfl
   rw [e0,e1] at c1
   omega
  ·have e1:(fresh g kind st).ents = []:=rfl
   simp [allEnts,e1]
 have hn:∀ i:Int,nmv L' i = nmv L i + (if i = nn then 1 else 0):=by
  intro i
  have c2:=cset (toI i) (put L nn (fresh g kind st)) kc xc (filled xc es nx st) hc1
  have e2':(filled xc es nx st).ents = xc.ents ++ [e2]:=he
  rw [e2',List.countP_append,List.countP_cons,List.countP_nil,hput] at c2
  have c4:(if toI i e2 = true then 1 else 0:Nat) = if i = nn then 1 else 0:=by
   by_cases h:i = nn
   ·rw [if_pos h,if_pos (by simp [toI,hto,h])]
   ·rw [if_neg h,if_neg (by simp [toI,hto];omega)]
  rw [c4] at c2
  rw [hL']
  unfold nmv
  omega
 rw [← hL']
 have hkeep:∀ (k:Nat) x,L[k]? = some x->x.kind≠0->∃ x',L'[k]? = some x'/\x'.gen = x.gen/\x'.kind = x.kind/\∀ e∈x.ents,e∈x'.ents:=by
  intro k x hx hkx
  rw [hg]
  by_cases e1:k = kc
  ·subst e1
   rw [hc] at hx
   cases hx
   refine ⟨_,if_pos rfl,rfl,rfl,fun e hem=>?_⟩
   show e∈es
   rw [he]
   exact List.mem_append_left _ hem
  ·rw [if_neg e1,if_neg (by rintro rfl;exact hkx (hnone x hx))]
   exact ⟨x,hx,rfl,rfl,fun e h=>h⟩
 have hnm:∀ a b,names L a b = true->names L' a b = true:=fun a b h=>names_to h fun k x hx _ hkx=>by
  obtain ⟨x',a1,a2,a3,_⟩:=hkeep k x hx hkx
  exact ⟨x',a1,a2,a3⟩
 have hnew:L'[nn]? = some (fresh g kind st):=by rw [hg,if_neg (fun e=>hne e.symm),if_pos rfl]
 have hnn2:names L' nn g = true:=names_iff.2 ⟨nn,_,hnew,rfl,rfl,by show kind≠0;rcases hkind with h | h <;> rw [h] <;> decide⟩
 refine isSp_mk hr (fun i x' hx'=>?_) fun c hd=>?_
 ·rw [hg] at hx'
  have hni:=hn (i:Int)
  split at hx'
  ·rename_i e1
   cases hx'
   subst e1
   rw [if_neg (by omega)] at hni
   obtain ⟨_,_,n1,n2,n3⟩:=ho i xc hc
   refine ⟨fun _=>⟨hR,rfl⟩,fun _ e hem=>?_,fun h=>?_,fun h h0=>?_,fun h=>?_⟩
   ·have hem':e∈xc.ents ++ [e2]:=by rw [← he];exact hem
    rcases List.mem_append.1 hem' with h | h
    ·exact hnm _ _ (hall e (all_of hc h))
    ·rw [List.mem_singleton.1 h,hto]
     exact hnn2
   ·have h2:xc.kind = 1:=h
    omega
   ·have:=n2 hk h0
    omega
   ·have:=n3 h
    omega
  ·split at hx'
   ·rename_i e1
    cases hx'
    subst e1
    rw [if_pos rfl,hz] at hni
    refine ⟨fun _=>⟨Fo.right_0,rfl⟩,fun _ e hem=>(by cases hem),fun h=>?_,fun h h0=>?_,fun h=>?_⟩
    ·show (nmv L' i:Int) = 1
     omega
    ·omega
    ·omega
   ·rename_i e1
    rw [if_neg (by omega)] at hni
    obtain ⟨o1,o2,n1,n2,n3⟩:=ho i x' hx'
    refine ⟨o1,fun h e hem=>hnm _ _ (o2 h e hem),fun h=>?_,fun h h0=>?_,fun h=>?_⟩
    ·have:=n1 h
     omega
    ·have:=n2 h h0
     omega
    ·have:=n3 h
     omega
 ·have hch:∀ p c,Child L p c->Child L' p c:=fun p c hpc=>by
   obtain ⟨⟨x,hx,e,hem,hec⟩,hdc⟩:=child_iff.1 hpc
   obtain ⟨x',g1,_,_,g4⟩:=hkeep p x hx (by have:=ents_dir h1 hx hem;omega)
   obtain ⟨y,hy,hky⟩:=dirAt_iff.1 hdc
   obtain ⟨y',b1,_,b3,_⟩:=hkeep c y hy (by omega)
   exact child_iff.2 ⟨⟨x',g1,e,g4 e hem,hec⟩,dirAt_iff.2 ⟨y',b1,by rw [b3];exact hky⟩⟩
  obtain ⟨m,hm⟩:=isSp_reach hs (dirAt_iff.2 ⟨xc,hc,hk⟩)
  have hm':=anc_mono hch m 0 kc hm
  by_cases hcn:c = nn
  ·subst hcn
   exact ⟨m + 1,kc,hm',child_iff.2 ⟨⟨filled xc es nx st,by rw [hg,if_pos rfl],e2,by show e2∈es;rw [he];simp,by rw [hto]⟩,hd⟩⟩
  ·obtain ⟨x',hx',hk'⟩:=dirAt_iff.1 hd
   rw [hg,if_neg hcn] at hx'
   have hdc:dirAt L c = true:=by
    split at hx'
    ·rename_i e1
     subst e1
     exact dirAt_iff.2 ⟨xc,hc,hk⟩
    ·exact dirAt_iff.2 ⟨x',hx',hk'⟩
   obtain ⟨d,ha⟩:=isSp_reach hs hdc
   exact ⟨d,anc_mono hch d 0 c ha⟩
end Sp
namespace Sp
theorem st_nonneg {L:List Ino} {st:Int} (h:top L<=st/\st<=1099511627776):0<=st/\st<=1099511627776:=⟨Int.le_trans (top_nonneg _) h.1,h.2⟩
theorem count_cut {l:List En} {j:Nat} {e:En} {k:Nat} (hj:l[j]? = some e) (h:e.2.2.1 = k) (i:Int):((l.eraseIdx j).countP (toI i):Int) = l.countP (toI i) + (if i = k then -1 else 0):=by
 have c:=cerase (toI i) l j e hj
 by_cases hi:i = k
 ·rw [if_pos (by simp [toI,h,hi])] at c
  rw [if_pos hi]
  omega
 ·rw [if_neg (by simp [toI,h];omega)] at c
  rw [if_neg hi]
  omega
theorem cut_sup {l:List En} {j:Nat} {e:En} {k:Nat} (hj:l[j]? = some e) (h:e.2.2.1 = k):∀ x∈l,x∈l.eraseIdx j∨x.2.2.1 = k:=fun x hx=>by
 rcases erase_sup hj x hx with h1 | h1
 ·exact .inl h1
 ·exact .inr (by rw [h1];exact h)
theorem add_right {l:List Ent} {nx:Int} {s:ByteArray} {no g:Int} (h:Fo.addErr l nx s no g = 0):Fo.Right (l ++ [(s,nx + 1,no,g)]) (nx + 1):=by
 obtain ⟨hR,hok,hHo,hat,hnx⟩:=Fo.add_zero h
 exact Fo.right_add hR hok hHo hat (by have:=hR.1.2;omega)
theorem unlink_stays {L:List Ino} {a b st:Int} {s:ByteArray} (h:ulE (chk isSp) L a b s st = 0):isSp (ulT (chk isSp) L a b s st) = true:=by
 unfold ulT
 rw [if_pos h]
 unfold ulE at h
 by_cases hl:toErr (chk isSp) L st a b s = 0
 ·rw [if_pos hl] at h
  obtain ⟨kc,xc,j,e,kt,xt,ha,hxc,hgc,hkc,hfc,hff,hp,hj,hH,hek,hk0,hxt,hgt,hkt0,hlt,hft,hit,hic,hr,hst,hlc⟩:=to_zero isSp_means hl
  have hs:isSp L = true:=by
   unfold toErr at hl
   by_cases h2:stErr (chk isSp) L st = 0
   ·exact chk_zero (stErr_zero h2).1
   ·rw [if_neg h2] at hl
    exact absurd hl h2
  rw [hH,hit] at h
  rw [hH,hit]
  have hk2:xt.kind≠2:=fun h2=>by
   rw [if_pos h2] at h
   exact absurd h (by decide)
  have hatt:=At.right_iff.1 (attr_of hr (List.mem_of_getElem? hxt))
  unfold At.rightP at hatt
  have hk1:xt.kind = 1:=by omega
  unfold lessDir
  rw [hic,hp,ha,hek,show ((kc:Int)).toNat = kc by omega,show ((j:Int)).toNat = j by omega,show ((kt:Int)).toNat = kt by omega]
  have hR:=((isSp_ok hs kc xc hxc).1 hkc).1
  exact stays_file hs hxc hkc hxt hk1 (st_nonneg hst) (Fo.right_cut hR j) (Nat.le_trans (List.length_eraseIdx_le ..) (by omega)) ⟨by omega,by omega⟩ (count_cut hj hek) (fun e he=>.inl (List.mem_of_mem_eraseIdx he)) (cut_sup hj hek)
 ·rw [if_neg hl] at h
  exact absurd h hl
theorem make_stays {L:List Ino} {a b kind st:Int} {s:ByteArray} (h:mkE (chk isSp) L a b s kind st = 0):isSp (mkT (chk isSp) L a b s kind st) = true:=by
 unfold mkT
 rw [if_pos h]
 unfold mkE at h
 by_cases hl:makeErr (chk isSp) L a b s kind st = 0
 ·rw [if_pos hl] at h
  obtain ⟨⟨hc0,hst⟩,hkind,hdc⟩:=makeErr_zero hl
  by_cases hm:It.makeErr L kind st = 0
  ·rw [if_pos hm] at h
   obtain ⟨-,-,hlen,-⟩:=isSp_means _ hc0
   have hs:=chk_zero hc0
   obtain ⟨hr,-,hn24,e1,e2⟩:=make_next hm
   obtain ⟨hk1,-⟩:=make_keep hm
   obtain ⟨kc,xc,hc,hxc,hgc,hkc,hec,hnc,hfc,-⟩:=dir_get hdc
   have hic:=find_same hfc hc hxc
   obtain ⟨hn1,-⟩:=next_good hr
   have hlc:=hlen xc (List.mem_of_getElem? hxc)
   have hnn:∃ nn:Nat,(next L).1 = nn/\((∃ x0,L[nn]? = some x0/\x0.kind = 0)∨nn = L.length):=by
    rcases next_cases L with ⟨j,y,hy,hyk,-,e⟩ | e
    ·exact ⟨j,by rw [e],.inl ⟨y,hy,hyk⟩⟩
    ·exact ⟨L.length,by rw [e],.inr rfl⟩
   obtain ⟨nn,hnn1,hnn2⟩:=hnn
   rw [hec,hnc,e2] at h
   rw [e1] at hk1 ⊢
   rw [hic,e2,hc]
   rw [hnn1,show ((nn:Int)).toNat = nn by omega] at hk1
   rw [hnn1,show ((nn:Int)).toNat = nn by omega,show ((kc:Int)).toNat = kc by omega]
   rw [hnn1] at h
   exact stays_mk hs hxc hkc hkind hnn2 (by omega) hk1 (st_nonneg hst) (add_right h) (by rw [List.length_append,List.length_singleton];omega) rfl rfl
  ·rw [if_neg hm] at h
   exact absurd h hm
 ·rw [if_neg hl] at h
  exact absurd h hl
end Sp
end Go.Proofs.YtneojimodomohaaGreat
namespace Go.Proofs.YtneojimodomohaaGreat.Bs
set_option maxRecDepth 100000
namespace Bl
theorem txt_bs (s:ByteArray):txt s.data.toList = s:=by cases s;simp [txt]
theorem data_append (a b:ByteArray):(a ++ b).data.toList = a.data.toList ++ b.data.toList:=by simp
theorem onesFrom_append (l m:List UInt8):∀ p,onesFrom p (l ++ m) = onesFrom p l ++ onesFrom (p + l.length) m:=by
 induction l with
 | nil=>intro p;simp [onesFrom]
 | cons b l ih =>
  intro p
  simp only [List.cons_append,onesFrom,List.length_cons,ih]
  rw [show p + 1 + (l.length:Int) = p + ((l.length + 1:Nat):Int) from by omega]
theorem ones_nil:ones [] = []:=rfl
theorem ones_join (l:List R) (r:R):ones (join l r) = ones l ++ one r:=by
 rcases snoc_cases l with rfl | ⟨m,s,rfl⟩
 ·simp [join_nil,ones]
 ·rw [join_snoc]
  split
  ·rename_i h
   rw [ones_append,ones_append,List.append_assoc]
   congr 1
   simp only [ones,List.flatMap_cons,List.flatMap_nil,List.append_nil]
   unfold one
   rw [show bs (s.1,s.2 ++ r.2) = bs s ++ bs r from data_append _ _,onesFrom_append,bs_length,← h]
   rfl
  ·rw [ones_append]
   simp [ones]
theorem ones_joins (xs:List R):∀ l,ones (joins l xs) = ones l ++ ones xs:=by
 induction xs with
 | nil=>intro l;simp [joins,ones]
 | cons x xs ih =>
  intro l
  show ones (joins (join l x) xs) = _
  rw [ih,ones_join,ones_cons,List.append_assoc]
theorem right_total {l:List R}:∀ {a:Int},right a l->a<=MAX->(total l:Int) + l.length<=MAX - a:=by
 induction l with
 | nil=>intro a _ ha;simp [total];omega
 | cons s l ih =>
  intro a h ha
  have h1:=h.1
  have:=ih h.2 (by unfold rend;omega)
  simp only [total,List.map_cons,List.sum_cons,List.length_cons] at this ⊢
  unfold rend at *
  omega
theorem ones_write (l:List R) (at_:Int) (d:ByteArray):ones (write l at_ d) = (ones l).filter (inn 0 at_) ++ onesFrom at_ d.data.toList ++ (ones l).filter (inn (at_ + d.size) MAX):=by
 unfold write parts
 rw [ones_joins,ones_append,ones_append,ones_within,ones_within]
 simp only [ones_nil,List.nil_append]
 congr 2
 split
 ·rename_i h
  have:d.data.toList = []:=List.eq_nil_of_length_eq_zero (by simpa using h)
  rw [this]
  rfl
 ·simp [ones,one,bs]
theorem right_filter {l:List R} (h:right (-1) l):∀ q∈ones l,0<=q.1/\q.1 < MAX:=by
 intro q hq
 obtain ⟨r,hr,hq⟩:=List.mem_flatMap.1 hq
 have h1:=right_mem h r hr
 have h2:=one_mem r q hq
 omega
end Bl
end Go.Proofs.YtneojimodomohaaGreat.Bs
namespace Go.Proofs.YtneojimodomohaaGreat.Bs
open Go.ChangeShapes Go.WideShapes Go.ChangeAt Go.RowKit Go.Deep
set_option maxRecDepth 100000
theorem laidOut:laidOutB Tryz.prog = true:=by kernel_rfl
theorem own:ownKnob Tryz.prog.godebug = none:=by kernel_rfl
end Go.Proofs.YtneojimodomohaaGreat.Bs
namespace Go.Proofs.YtneojimodomohaaGreat.Bs
set_option maxRecDepth 100000
namespace Bl
theorem look_write {l:List R} {at_:Int} {d:ByteArray} (hr:right (-1) l) (p:Int) :
  look 0 p (ones (write l at_ d)) = if at_<=p/\p < at_ + (d.size:Int) then d.data.toList.getD (p - at_).toNat 0 else look 0 p (ones l):=by
 rw [ones_write,look_append,look_append]
 have hl:d.data.toList.length = d.size:=by simp
 split
 ·rename_i h
  rw [look_none _ _ (List.filter _ _) (fun q hq=>by have:=(List.mem_filter.1 hq).2;unfold inn at this;simp at this;omega)]
  rw [look_from _ _ _ _ h.1 (by rw [hl];exact h.2)]
 ·rename_i h
  rw [look_none _ _ (onesFrom _ _) (fun q hq=>by have:=onesFrom_mem _ _ q hq;rw [hl] at this;omega)]
  by_cases h1:p < at_
  ·rw [look_none _ _ (List.filter (inn (at_ + d.size) MAX) _) (fun q hq=>by have:=(List.mem_filter.1 hq).2;unfold inn at this;simp at this;omega)]
   exact look_filter _ _ _ _ (fun q hq e=>by
    have h2:=right_filter hr q hq
    unfold inn
    simp
    omega)
  ·rw [look_none _ _ (List.filter (inn 0 at_) _) (fun q hq=>by have:=(List.mem_filter.1 hq).2;unfold inn at this;simp at this;omega)]
   exact look_filter _ _ _ _ (fun q hq e=>by
    have h2:=right_filter hr q hq
    unfold inn
    simp
    omega)
theorem over_same {l:List R} {at_:Int} {d:ByteArray} (hr:right (-1) l):over at_ d.size (write l at_ d) = d.data.toList:=by
 have hl:d.data.toList.length = d.size:=by simp
 apply List.ext_getElem
 ·rw [over_length,hl]
 ·intro i h1 h2
  rw [over_length] at h1
  simp only [over,List.getElem_map,List.getElem_range]
  rw [look_write hr,if_pos (by omega),show (at_ + (i:Int) - at_).toNat = i by omega,List.getD_eq_getElem?_getD,List.getElem?_eq_getElem h2]
  rfl
theorem rErr_ok {l:List R} {size at_ n:Int} (hr:right (-1) l) (h:¬ (size < 0∨1048576 < size∨at_ < 0∨n < 0∨512 < n)):rErr l size at_ n = 0:=by unfold rErr;rw [if_pos hr,if_neg h]
theorem rOut_ok {l:List R} {size at_ n:Int} (hr:right (-1) l) (h:¬ (size < 0∨1048576 < size∨at_ < 0∨n < 0∨512 < n)):rOut l size at_ n = txt (over at_ (min n (size - at_)).toNat l):=by unfold rOut;rw [if_pos (rErr_ok hr h)]
end Bl
end Go.Proofs.YtneojimodomohaaGreat.Bs
