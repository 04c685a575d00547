/- Cnt0, SpC, Late, Rg, as one. -/
import Derived.OrdersHeld
import Derived.RangeFuncNested
import Derived.RangeFuncBound
import Derived.RangeFuncCalls
import Derived.RangeFuncLeaves
import Derived.Test.YtneojimodomohaaGreatV6
set_option maxHeartbeats 8000000
set_option maxRecDepth 100000
namespace Go.Proofs.YtneojimodomohaaGreat
section
open It
namespace Sp
def lkOf (L:List Ino) (no:Int):Int:=((L[no.toNat]?).getD zeroI).links
def gen0 (L:List Ino):Int:=((L[0]?).getD zeroI).gen
def startK (L:List Ino) (k:Nat):List ((Int × Int) × Int):=((used L).take k).foldl (fun M h=>mset M h (lkOf L h.1)) []
def start (L:List Ino):List ((Int × Int) × Int):=mset (startK L (used L).length) (0,gen0 L) 0
theorem startK_succ {L:List Ino} {k:Nat} {h:Int × Int} (hk:(used L)[k]? = some h):startK L (k + 1) = mset (startK L k) h (lkOf L h.1):=by
  unfold startK;rw [List.take_add_one,hk,Option.toList_some,List.foldl_append];rfl
/-- Each entry takes one away; one that has none left: no. -/
def eat (M:List ((Int × Int) × Int)):List En->Option (List ((Int × Int) × Int))
  | []=>some M
  | e :: r=>if mval M e.2.2 = 0 then none else eat (mset M e.2.2 (mval M e.2.2 - 1)) r
theorem eat_cons (M:List ((Int × Int) × Int)) (e:En) (r:List En):eat M (e :: r) = if mval M e.2.2 = 0 then none else eat (mset M e.2.2 (mval M e.2.2 - 1)) r:=rfl
theorem eat_append:∀ (a b:List En) (M:List ((Int × Int) × Int)),eat M (a ++ b) = (eat M a).bind fun M'=>eat M' b
  | [],b,M=>rfl
  | e :: a, b, M => by
    rw [List.cons_append,eat_cons,eat_cons]
    by_cases h:mval M e.2.2 = 0
    · rw [if_pos h, if_pos h]
      rfl
    · rw [if_neg h, if_neg h]
      exact eat_append a b _
def cntB (L:List Ino):Bool:=match eat (start L) (allEnts L) with | some M=>M.all (fun p=>p.2 == 0) | none=>false
/-- What has been eaten ahead of the j-th entry of the k-th inode. -/
def sofar (L:List Ino) (k j:Nat):List En:=allEnts (L.take k) ++ (entsAt L k).take j
theorem sofar_zero (L:List Ino) (k:Nat):sofar L k 0 = allEnts (L.take k):=by simp [sofar]
theorem sofar_next {L:List Ino} {k j:Nat} {e:En} (h:(entsAt L k)[j]? = some e):sofar L k (j + 1) = sofar L k j ++ [e]:=by
  unfold sofar;rw [List.take_add_one,h];simp
theorem sofar_end {L:List Ino} {k j:Nat} (hk:k < L.length) (h:(entsAt L k).length = j):sofar L k j = allEnts (L.take (k + 1)):=by
  unfold sofar allEnts;have e2:entsAt L k = L[k].ents:=by simp [entsAt,List.getElem?_eq_getElem hk]
  rw [← h,List.take_length,List.take_add_one,List.getElem?_eq_getElem hk,Option.toList_some,List.flatMap_append,e2];simp
theorem sofar_pre {L:List Ino} {k j:Nat} {e:En} (hk:k < L.length) (h:(entsAt L k)[j]? = some e):∃ r,allEnts L = sofar L k j ++ e :: r:=by
  have h1:allEnts L = allEnts (L.take k) ++ (entsAt L k ++ allEnts (L.drop (k + 1))):=by
    have e1:L = L.take k ++ (L[k] :: L.drop (k + 1)):=by rw [← List.drop_eq_getElem_cons hk,List.take_append_drop]
    have e2:entsAt L k = L[k].ents:=by simp [entsAt,List.getElem?_eq_getElem hk]
    rw [e2];unfold allEnts
    conv=>lhs;rw [e1]
    rw [List.flatMap_append,List.flatMap_cons]
  obtain ⟨hj,he⟩:=List.getElem?_eq_some_iff.1 h;have h2:entsAt L k = (entsAt L k).take j ++ (e :: (entsAt L k).drop (j + 1)):=by
    rw [← he,← List.drop_eq_getElem_cons hj,List.take_append_drop]
  refine ⟨(entsAt L k).drop (j + 1) ++ allEnts (L.drop (k + 1)),?_⟩;rw [h1,sofar]
  conv=>lhs;rw [h2]
  simp
theorem eat_no {L:List Ino} {k j:Nat} {e:En} {M:List ((Int × Int) × Int)} (hk:k < L.length) (h:(entsAt L k)[j]? = some e) (hm:eat (start L) (sofar L k j) = some M) (h0:mval M e.2.2 = 0):cntB L = false:=by
  obtain ⟨r,hr⟩:=sofar_pre hk h;unfold cntB;rw [hr,eat_append,hm];show (match eat M (e :: r) with | some M=>M.all (fun p=>p.2 == 0) | none=>false) = false;unfold eat;rw [if_pos h0]
theorem eat_yes {L:List Ino} {k j:Nat} {e:En} {M:List ((Int × Int) × Int)} (h:(entsAt L k)[j]? = some e) (hm:eat (start L) (sofar L k j) = some M) (h0:mval M e.2.2≠0):eat (start L) (sofar L k (j + 1)) = some (mset M e.2.2 (mval M e.2.2 - 1)):=by
  rw [sofar_next h,eat_append,hm];show eat M [e] = _;unfold eat;rw [if_neg h0];rfl
theorem eat_end {L:List Ino} {M:List ((Int × Int) × Int)} {n:Nat} (hn:L.length = n) (hm:eat (start L) (allEnts (L.take n)) = some M):cntB L = M.all (fun p=>p.2 == 0):=by
  rw [← hn,List.take_length] at hm;unfold cntB;rw [hm]
/-- The map's keys are apart, its numbers small. -/
def Small (M:List ((Int × Int) × Int)):Prop:=(M.map (·.1)).Nodup/\∀ p∈M,0<=p.2/\p.2<=64
theorem Small.nil:Small []:=⟨by simp,fun p hp=>by cases hp⟩
theorem Small.set {M:List ((Int × Int) × Int)} (h:Small M) (g:Int × Int) {v:Int} (h0:0<=v) (h1:v<=64):Small (mset M g v):=by
  obtain ⟨h2,h3⟩:=mset_keys h.1 g v;refine ⟨h2,fun p hp=>?_⟩;rcases (h3 p.1 p.2).1 hp with ⟨_,h4⟩ | ⟨_,h4⟩
  · omega
  · exact h.2 _ h4
theorem Small.val {M:List ((Int × Int) × Int)} (h:Small M) (g:Int × Int):0<=mval M g/\mval M g<=64:=by
  by_cases hm:∃ u,(g,u)∈M
  · obtain ⟨u, hu⟩ := hm
    rw [mval_mem h.1 (p:=(g,u)) hu];exact h.2 _ hu
  · rw [mval_out (fun p hp ep => hm ⟨p.2, by rw [← ep]; exact hp⟩)]
    omega
theorem find_val {M:List ((Int × Int) × Int)} {g:Int × Int} (h:mval M g≠0):∃ i,mfind M g 0 = some (i,mval M g):=by
  unfold mval at h ⊢
  cases e:mfind M g 0 with
  | none=>rw [e] at h;exact absurd rfl h
  | some q=>exact ⟨q.1,rfl⟩
end Sp
namespace Sp
def cnt (L:List Ino) (h:Int × Int):Nat:=(allEnts L).countP (fun e=>e.2.2 == h)
theorem eat_val:∀ (es:List En) (M M':List ((Int × Int) × Int)),(M.map (·.1)).Nodup->eat M es = some M'->(M'.map (·.1)).Nodup/\∀ h,mval M' h = mval M h - (es.countP (fun e=>e.2.2 == h):Nat)
 | [],M,M',hn,h=>by
  cases h
  exact ⟨hn,fun h=>by simp⟩
 | e :: es, M, M', hn, h => by
  rw [eat_cons] at h;split at h
  ·cases h
  ·obtain ⟨h1,h2⟩:=eat_val es _ M' (mset_keys hn _ _).1 h;refine ⟨h1,fun g=>?_⟩;rw [h2 g,mval_set hn,List.countP_cons]
   by_cases hg:g = e.2.2
   ·subst hg;simp;omega
   ·rw [if_neg hg];have:(e.2.2 == g) = false:=beq_eq_false_iff_ne.2 (Ne.symm hg);simp [this]
theorem eat_some:∀ (es:List En) (M:List ((Int × Int) × Int)),(M.map (·.1)).Nodup->(∀ h,(es.countP (fun e=>e.2.2 == h):Int)<=mval M h)->∃ M',eat M es = some M'
 | [],M,_,_=>⟨M,rfl⟩
 | e :: es, M, hn, h => by
  rw [eat_cons];have h0:=h e.2.2;rw [List.countP_cons] at h0;simp at h0;rw [if_neg (by omega)];refine eat_some es _ (mset_keys hn _ _).1 fun g=>?_
  have hg:=h g;rw [List.countP_cons] at hg;rw [mval_set hn]
  by_cases hge:g = e.2.2
  ·subst hge;simp at hg ⊢;omega
  ·rw [if_neg hge];have:(e.2.2 == g) = false:=beq_eq_false_iff_ne.2 (Ne.symm hge);simp [this] at hg;exact hg
theorem startK_small {L:List Ino} (h:It.right L = true):∀ k,Small (startK L k):=by
 intro k;unfold startK;have key:∀ (l:List (Int × Int)) (M:List ((Int × Int) × Int)),Small M->(∀ g∈l,0<=lkOf L g.1/\lkOf L g.1<=64)->Small (l.foldl (fun M h=>mset M h (lkOf L h.1)) M):=by
  intro l
  induction l with
  | nil=>intro M hM _;exact hM
  | cons g l ih =>
   intro M hM hb;exact ih _ (hM.set g (hb g (by simp)).1 (hb g (by simp)).2) fun x hx=>hb x (List.mem_cons_of_mem _ hx)
 refine key _ _ Small.nil fun g hg=>?_
 obtain ⟨i,x,hx,hno,-,-⟩:=names_iff.1 (mem_used.1 (List.mem_of_mem_take hg));have hone:=(It.right_iff.1 h).2.2 x (List.mem_of_getElem? hx);unfold lkOf;rw [hno,show ((i:Int)).toNat = i by omega,hx,Option.getD_some];unfold one at hone;simp only [Bool.and_eq_true] at hone;rcases At.right_iff.1 hone.2.1 with ⟨_,h1,_⟩ | ⟨_,_,⟨_,h1⟩ | ⟨_,h1⟩⟩ <;> omega
theorem fold_val {f:Int->Int}:∀ (l:List (Int × Int)) (M:List ((Int × Int) × Int)),(M.map (·.1)).Nodup->∀ g,mval (l.foldl (fun M h=>mset M h (f h.1)) M) g = if g∈l then f g.1 else mval M g
 | [],M,_,g=>by simp
 | h :: l, M, hn, g => by
  rw [List.foldl_cons,fold_val l _ (mset_keys hn _ _).1 g,mval_set hn]
  by_cases h1:g∈l
  ·rw [if_pos h1,if_pos (List.mem_cons_of_mem _ h1)]
  ·rw [if_neg h1]
   by_cases h2:g = h
   ·rw [if_pos h2,if_pos (by rw [h2];simp),h2]
   ·rw [if_neg h2,if_neg (fun hm=>by rcases List.mem_cons.1 hm with h3 | h3;exact h2 h3;exact h1 h3)]
theorem start_nodup {L:List Ino} (h:It.right L = true):((start L).map (·.1)).Nodup:=(mset_keys (startK_small h _).1 _ _).1
theorem start_val {L:List Ino} (h:It.right L = true) (g:Int × Int):mval (start L) g = if g = (0,gen0 L) then 0 else if names L g.1 g.2 = true then lkOf L g.1 else 0:=by
 unfold start;rw [mval_set (startK_small h _).1]
 by_cases h1:g = (0,gen0 L)
 ·rw [if_pos h1,if_pos h1]
 ·rw [if_neg h1,if_neg h1];unfold startK;rw [List.take_length,fold_val (f:=lkOf L) _ _ (by simp)];have hm:g∈used L ↔ names L g.1 g.2 = true:=mem_used (L:=L) (no:=g.1) (gen:=g.2)
  by_cases h2:names L g.1 g.2 = true
  ·rw [if_pos (hm.2 h2),if_pos h2]
  ·rw [if_neg (fun h3=>h2 (hm.1 h3)),if_neg h2];rfl
theorem cntB_iff {L:List Ino} (h:It.right L = true):cntB L = true ↔ ∀ g,(cnt L g:Int) = mval (start L) g:=by
 have hn:=start_nodup h;constructor
 ·intro hc g;unfold cntB at hc
  cases he:eat (start L) (allEnts L) with
  | none=>rw [he] at hc;cases hc
  | some M =>
   rw [he] at hc;obtain ⟨h1,h2⟩:=eat_val _ _ M hn he;have h3:=h2 g;have h4:mval M g = 0:=by
    by_cases hm:∃ u,(g,u)∈M
    ·obtain ⟨u,hu⟩:=hm;rw [mval_mem h1 (p:=(g,u)) hu];have:=List.all_eq_true.1 hc _ hu;simpa using this
    ·exact mval_out (fun p hp ep=>hm ⟨p.2,by rw [← ep];exact hp⟩)
   unfold cnt;omega
 ·intro hc;obtain ⟨M,he⟩:=eat_some (allEnts L) (start L) hn (fun g=>by have:=hc g;unfold cnt at this;omega);obtain ⟨h1,h2⟩:=eat_val _ _ M hn he;unfold cntB;rw [he];refine List.all_eq_true.2 fun p hp=>?_
  have h3:=h2 p.1;have h4:=hc p.1;unfold cnt at h4;rw [mval_mem h1 hp] at h3;simp;omega
theorem mem_all {L:List Ino} {p:Nat} {e:En} (h:e∈entsAt L p):e∈allEnts L:=by
 unfold entsAt at h;split at h
 ·rename_i x hx
  exact List.mem_flatMap.2 ⟨x,List.mem_of_getElem? hx,h⟩
 ·cases h
theorem all_mem {L:List Ino} {e:En} (h:e∈allEnts L):∃ (p:Nat) (x:Ino),L[p]? = some x/\e∈x.ents:=by
 obtain ⟨x,hx,he⟩:=List.mem_flatMap.1 h;obtain ⟨p,hp⟩:=List.mem_iff_getElem?.1 hx;exact ⟨p,x,hp,he⟩
theorem ents_dir {L:List Ino} (h:It.right L = true) {p:Nat} {x:Ino} (hx:L[p]? = some x) {e:En} (he:e∈x.ents):x.kind = 2:=by
 have hone:=(It.right_iff.1 h).2.2 x (List.mem_of_getElem? hx);unfold one at hone;simp only [Bool.and_eq_true] at hone
 by_cases hk:x.kind = 2
 ·exact hk
 ·have h2:=hone.2.2;rw [if_neg hk] at h2;split at h2
  ·simp only [Bool.and_eq_true,List.isEmpty_iff] at h2;rw [h2.1.1.1] at he
   cases he
  ·simp only [Bool.and_eq_true,List.isEmpty_iff] at h2;rw [h2.1.1] at he
   cases he
theorem dir_links {L:List Ino} (h:It.right L = true) {p:Nat} {x:Ino} (hx:L[p]? = some x) (hk:x.kind = 2):x.links = 1:=by
 have hone:=(It.right_iff.1 h).2.2 x (List.mem_of_getElem? hx);unfold one at hone;simp only [Bool.and_eq_true] at hone;rcases At.right_iff.1 hone.2.1 with ⟨h1,_⟩ | ⟨_,_,⟨h1,_⟩ | ⟨_,h1⟩⟩
 ·omega
 ·omega
 ·exact h1
theorem ent_named {L:List Ino} (h:It.right L = true) (hc:cntB L = true) {e:En} (he:e∈allEnts L):names L e.2.2.1 e.2.2.2 = true/\e.2.2.1≠0/\1<=lkOf L e.2.2.1:=by
 have h1:=(cntB_iff h).1 hc e.2.2;have h2:0 < cnt L e.2.2:=List.countP_pos_iff.2 ⟨e,he,by simp⟩;rw [start_val h] at h1
 by_cases h3:e.2.2 = (0,gen0 L)
 ·rw [if_pos h3] at h1;omega
 ·rw [if_neg h3] at h1
  by_cases h4:names L e.2.2.1 e.2.2.2 = true
  ·rw [if_pos h4] at h1;refine ⟨h4,fun h5=>h3 ?_,by omega⟩;obtain ⟨i,x,hx,hno,hg,_⟩:=names_iff.1 h4;have hi:i = 0:=by omega
   subst hi;unfold gen0;rw [hx,Option.getD_some,hg,← h5]
  ·rw [if_neg h4] at h1;omega
theorem tree_of {L:List Ino} (h:It.right L = true) (hf:folds L) (hc:cntB L = true):Tree L:=by
 refine ⟨fun p e he=>?_,fun c hd=>?_,?_⟩
 ·obtain ⟨h1,h2,_⟩:=ent_named h hc (mem_all he);obtain ⟨i,x,hx,hno,_,_⟩:=names_iff.1 h1;have hi:=(qM hx);refine ⟨by omega,by omega,?_,h2⟩;obtain ⟨q,y,hy,hey⟩:=all_mem (mem_all he);obtain ⟨⟨_,hpre,_⟩,_⟩:=hf y (List.mem_of_getElem? hy) (ents_dir h hy hey);obtain ⟨j,hj⟩:=List.mem_iff_getElem?.1 hey;exact (hpre j (qM hj) e hj).1.2.1
 ·have hcl:=dirAt_lt hd;have hx:L[c]? = some L[c]:=List.getElem?_eq_getElem hcl;have hk:L[c].kind = 2:=by
   unfold dirAt at hd;rw [hx] at hd;simpa using hd
  have e1:(allEnts L).countP (toNo c) = cnt L ((c:Int),L[c].gen):=by
   unfold cnt;refine List.countP_congr fun e he=>?_
   obtain ⟨h1,_,_⟩:=ent_named h hc he;obtain ⟨i,x,hxi,hno,hg,_⟩:=names_iff.1 h1;simp only [toNo,beq_iff_eq];constructor
   ·intro h2;have:i = c:=by omega
    subst this;rw [hx] at hxi
    cases hxi
    exact Prod.ext h2 hg.symm
   ·intro h2;rw [h2]
  have h1:=(cntB_iff h).1 hc ((c:Int),L[c].gen);rw [e1];rw [start_val h] at h1;have hl:lkOf L (c:Int) = 1:=by
   unfold lkOf;rw [show ((c:Int)).toNat = c by omega,hx,Option.getD_some];exact dir_links h hx hk
  simp only [hl] at h1;split at h1
  ·omega
  ·split at h1 <;> omega
 ·have hr:=(It.right_iff.1 h).2.1;unfold rootB at hr
  cases L with
  | nil=>cases hr
  | cons x l =>
   simp at hr;simp [dirAt,hr]
theorem right_len {L:List Ino} (h:It.right L = true):1<=L.length/\L.length<=24:=(It.right_iff.1 h).1
theorem count_dirs (L:List Ino):L.countP (fun x=>x.kind == 2) = (dirs L).length:=by
 unfold dirs;rw [List.countP_eq_length_filter];have key:∀ (l:List Ino),((List.range l.length).filter (dirAt l)).length = (l.filter (fun x=>x.kind == 2)).length:=by
  intro l;have e:(List.range l.length).map (fun i=>l[i]?.getD zeroI) = l:=by
   refine List.ext_getElem? fun i=>?_
   rw [List.getElem?_map]
   by_cases hi:i < l.length
   ·rw [List.getElem?_range hi];simp [List.getElem?_eq_getElem hi]
   ·rw [List.getElem?_eq_none (by simpa using hi),List.getElem?_eq_none (by omega)];rfl
  conv=>rhs;rw [← e]
  rw [List.filter_map,List.length_map]
  congr 1
  refine List.filter_congr fun i hi=>?_
  have:=List.mem_range.1 hi;simp [dirAt,List.getElem?_eq_getElem this]
 exact (key L).symm
def reachB (L:List Ino):Bool:=(((walk L 24 0 ⟨#[]⟩).length:Int) - (L.countP (fun x=>x.kind == 2):Nat)) == 0
theorem reachB_iff {L:List Ino} (ht:Tree L) (hL:L.length<=24):reachB L = true ↔ ∀ c,dirAt L c = true->∃ d,Anc L d 0 c:=by
 unfold reachB;rw [← walk_all ht hL ⟨#[]⟩,count_dirs];simp;omega
noncomputable def isSp (L:List Ino):Bool:=It.right L && (foldsB L && (cntB L && reachB L))
open Classical in
theorem foldsB_iff {L:List Ino}:foldsB L = true ↔ folds L:=by
 unfold foldsB;exact decide_eq_true_iff
theorem isSp_iff {L:List Ino}:isSp L = true ↔ It.right L = true/\folds L/\cntB L = true/\reachB L = true:=by
 unfold isSp;simp only [Bool.and_eq_true,foldsB_iff]
theorem isSp_tree {L:List Ino} (h:isSp L = true):Tree L:=by
 obtain ⟨h1,h2,h3,_⟩:=isSp_iff.1 h;exact tree_of h1 h2 h3
theorem isSp_deep {L:List Ino} (h:isSp L = true) {k:Nat} (hk:k < L.length):deep L 24 k:=by
 obtain ⟨h1,h2,h3,h4⟩:=isSp_iff.1 h;have ht:=isSp_tree h
 cases hd:dirAt L k with
 | true =>
  obtain ⟨d,ha⟩:=(reachB_iff ht (right_len h1).2).1 h4 k hd;exact deep_all ht (right_len h1).2 ha hk
 | false =>
  refine deep_bare hk ?_;have hx:L[k]? = some L[k]:=List.getElem?_eq_getElem hk
  cases he:entsAt L k with
  | nil=>rfl
  | cons e r =>
   have hm:e∈L[k].ents:=by
    unfold entsAt at he;rw [hx] at he;simp only at he;rw [he];simp
   have:=ents_dir h1 hx hm;unfold dirAt at hd;rw [hx] at hd;simp [this] at hd
end Sp
end
section
namespace Late
variable {P:Program} {ops:Array Oper} {Q:Exit->Act->World->Prop} {md:Region.Mode} {S:World->Prop} {k:Nat}
/-- Whatever order is picked from here on; and S holds as long as number k has not come up. -/
def any (P:Program) (md:Region.Mode) (ops:Array Oper) (Q:Exit->Act->World->Prop) (S:World->Prop) (k:Nat):Nat->Array Bool->Act->World->Prop
  | 0,l,a,w=>Region.ready md ops l = []/\Q .normal a w
  | n + 1, l, a, w => (Region.ready md ops l = [] → Q .normal a w) ∧
      ∀ i∈Region.ready md ops l,wpOp P ops Q i (fun b v=>(i≠k->S v)/\any P md ops Q S k n (l.setIfInBounds i true) b v) a w
theorem any_plain:∀ (n:Nat) (l:Array Bool) (a:Act) (w:World),any P md ops Q S k n l a w->wpAny P md ops Q n l a w:=by
  intro n
  induction n with
  | zero=>exact fun _ _ _ h=>h
  | succ n ih=>exact fun l a w h=>⟨h.1,fun i hi=>wpOp_mono (fun b v hb=>ih _ b v hb.2) (h.2 i hi)⟩
/-- Number k waits for number i. -/
def waits (md:Region.Mode) (ops:Array Oper) (k i:Nat):Bool:=((ops[k]?).map fun o=>o.after.any fun e=>Region.binds md e && e.on == i).getD false
theorem not_yet {i j:Nat} {l:Array Bool} (hw:waits md ops k i = true) (hi:i∈Region.ready md ops l) (hj:j∈Region.ready md ops l):j≠k:=by
  intro e;subst e;unfold waits at hw;obtain ⟨_,o,ho,hall⟩:=mem_ready.1 hj;rw [ho] at hw;simp only [Option.map_some,Option.getD_some,Array.any_eq_true'] at hw;obtain ⟨d,hd,hb⟩:=hw;simp only [Bool.and_eq_true,beq_iff_eq] at hb;have h1:=hall d hd hb.1;have h0:=(mem_ready.1 hi).1;rw [hb.2] at h1;have e1:l.getD i true = l.getD i false:=by
    by_cases hlt:i < l.size
    · simp [hlt]
    · simp [Array.getElem?_eq_none (Nat.le_of_not_lt hlt)] at h1
  rw [e1,h1] at h0
  cases h0
theorem before {i : Nat} {oi : Oper} {v : Value} (hi : ops[i]? = some oi) (hsel : Region.noSelect ops = true) (hw : waits md ops k i = true)
    (hQ:∀ c a w,Q (.panic c) (a.put oi.dst v) w->Q (.panic c) a w) :
    ∀ (n : Nat) (l : Array Bool) (a : Act) (w : World),
      (∀ j oj,ops[j]? = some oj->j≠i->l.getD j true = false->(∀ e∈oj.after,Region.binds md e = true->e.on≠i)->oi.apart ops oj = true) ->
      i∈Region.ready md ops l->YieldsIf P ops S oi v a->S w->any P md ops Q S k n (l.setIfInBounds i true) (a.put oi.dst v) w->any P md ops Q S k (n + 1) l a w:=by
  intro n
  induction n with
  | zero =>
    intro l a w _ hr hy hS hH;refine ⟨fun h=>absurd hr (by rw [h];simp),fun j hj=>?_⟩
    by_cases e:j = i
    · subst e;exact hy.wpOp hi hS ⟨fun _=>hS,hH⟩
    · exact absurd (ready_mono hj e) (by rw [hH.1];simp)
  | succ n ih =>
    intro l a w hfr hr hy hS hH;refine ⟨fun h=>absurd hr (by rw [h];simp),fun j hj=>?_⟩
    by_cases e:j = i
    · subst e;exact hy.wpOp hi hS ⟨fun _=>hS,hH⟩
    · have hjk := not_yet hw hr hj
      obtain ⟨hun,oj,hoj,hall⟩:=mem_ready.1 hj;have hno:∀ d∈oj.after,Region.binds md d = true->d.on≠i:=by
        intro d hd hb hdi;have h1:=hall d hd hb;have h0:=(mem_ready.1 hr).1;rw [hdi] at h1
        by_cases hlt:i < l.size
        · simp [hlt] at h0 h1
          rw [h0] at h1
          cases h1
        · simp [Array.getElem?_eq_none (Nat.le_of_not_lt hlt)] at h1
      refine wpOp_mono (fun b u hb=>⟨fun _=>hb.2.1 hjk,?_⟩) (wpOp_putIf hoj (hfr j oj hoj e hun hno) (fun cs b=>Region.noSelect_spec hsel i oi cs b hi) (fun cs b=>Region.noSelect_spec hsel j oj cs b hoj) hQ hy (hH.2 j (ready_mono hj e)));refine ih (l.setIfInBounds j true) b u (fun q oq hq hqi hqu hqn=>hfr q oq hq hqi ?_ hqn) (ready_mono hr (Ne.symm e)) hb.1 (hb.2.1 hjk) ?_
      · by_cases hjq : j = q
        · subst hjq;exact hun
        · rw [getD_set_ne true hjq] at hqu;exact hqu
      · rw [Array.setIfInBounds_comm _ _ e]
        exact hb.2.2
/-- The post, of what does not panic. -/
def fine (Q:Exit->Act->World->Prop):Exit->Act->World->Prop:=fun e a w=>e = .normal/\Q .normal a w
/-- Take number i first. -/
theorem take (i:Nat) {oi:Oper} (v:Value) {n:Nat} {l:Array Bool} {a:Act} {w:World} (hi:ops[i]? = some oi) (hsel:Region.noSelect ops = true) (hw:waits md ops k i = true)
    (hf:Region.free md ops l i = true) (hr:(Region.ready md ops l).contains i = true)
    (hg:oi.guard = none) (hy:∀ w,S w->(execOp a.eval oi).run P w = .ok (.value v) w) (hS:S w) (h:any P md ops (fine Q) S k n (l.setIfInBounds i true) (a.put oi.dst v) w):any P md ops (fine Q) S k (n + 1) l a w :=
  before hi hsel hw (fun _ _ _ h=>by cases h.1) n l a w (Region.free_spec hi hf) (by simpa using hr) (.inl ⟨by simp [Region.wanted,hg],hy⟩) hS h
/-- One alone may come up. -/
theorem one (i:Nat) {oi:Oper} {n:Nat} {l:Array Bool} {a:Act} {w:World} (hi:ops[i]? = some oi) (hr:Region.ready md ops l = [i]) (hg:oi.guard = none)
    (h:oi.wp P a w (fun b v=>(i≠k->S v)/\any P md ops (fine Q) S k n (l.setIfInBounds i true) b v) (fine Q)):any P md ops (fine Q) S k (n + 1) l a w:=by
  refine ⟨fun h0=>absurd (hr.symm.trans h0) (by simp),fun j hj=>?_⟩;rw [hr] at hj;obtain rfl:j = i:=by simpa using hj
  unfold wpOp;rw [hi];simp only [show Region.wanted oi (yielded ops a.tmps) = true by simp [Region.wanted,hg],if_true];exact .inl h
theorem done {l:Array Bool} {a:Act} {w:World} (hr:Region.ready md ops l = []) (h:Q .normal a w):any P md ops (fine Q) S k 0 l a w:=⟨hr,rfl,h⟩
theorem start {id:Nat} {a:Act} {w:World} (S:World->Prop) (k:Nat) (hm:P.follows .mixedOrders = true) (h:any P .any ops (fine Q) S k ops.size (Array.replicate ops.size false) a w.drew):(Code.region id ops true).wp P Q a w :=
  wp_mono (wp_region_any hm (any_plain _ _ _ _ h)) (fun e a w hq=>by obtain ⟨rfl,h⟩:=hq;exact h)
end Late
end
section
open Go.RowKit
variable {α:Type} {P:Program}
def Mine (Bx:Nat) (W:World) (k:Nat):Prop:=k = Bx∨∃ v,W.cell? ⟨Bx,0,none⟩ = some v/\v.ownBlock = some k
def HasBox (Bx:Nat) (W:World):Prop:=∃ v,W.cell? ⟨Bx,0,none⟩ = some v/\∀ k,v.ownBlock = some k->k < W.heap.size
structure Kp (Bx:Nat) (W W':World):Prop where
 os:W'.os = W.os
 tape:W'.tape = W.tape
 output:W'.output = W.output
 size:W.heap.size<=W'.heap.size
 box:HasBox Bx W->HasBox Bx W'
 keep:∀ k,k < W.heap.size->¬ Mine Bx W k->W'.heap[k]? = W.heap[k]?
 mine:∀ k,k < W.heap.size->Mine Bx W' k->Mine Bx W k
 others:∀ (k:Nat) (o:Obj),W.heap[k]? = some o->o.isCells = false->W'.heap[k]? = some o
theorem HasBox.lt {Bx:Nat} {W:World} (h:HasBox Bx W):Bx < W.heap.size:=by
 obtain ⟨v,hv,-⟩:=h;exact World.block_lt_of_cell? _ _ hv
theorem mine_same {Bx:Nat} {W W':World} (h:W'.heap[Bx]? = W.heap[Bx]?) (k:Nat):Mine Bx W' k ↔ Mine Bx W k:=by
 unfold Mine;rw [World.cell?_of_block (a:=⟨Bx,0,none⟩) h]
theorem HasBox.up {Bx:Nat} {W W':World} (hb:HasBox Bx W) (h:W'.heap[Bx]? = W.heap[Bx]?) (hs:W.heap.size<=W'.heap.size):HasBox Bx W':=by
 obtain ⟨v,hv,hk⟩:=hb;exact ⟨v,(World.cell?_of_block (a:=⟨Bx,0,none⟩) h).trans hv,fun k e=>Nat.lt_of_lt_of_le (hk k e) hs⟩
theorem HasBox.new {Bx:Nat} {W W':World} (hb:HasBox Bx W) (hg:W.grownBy W' none) {k:Nat} (hk:W.heap.size<=k):¬ Mine Bx W' k:=by
 have hlt:=hb.lt;rw [mine_same (hg.block Bx hlt (by simp))];obtain ⟨v,hv,ho⟩:=hb;rintro (rfl | ⟨u,hu,he⟩)
 ·omega
 ·rw [hv] at hu
  cases hu
  have:=ho k he;omega
theorem Kp.refl (Bx:Nat) (W:World):Kp Bx W W:=⟨rfl,rfl,rfl,Nat.le_refl _,id,fun _ _ _=>rfl,fun _ _ h=>h,fun _ _ h _=>h⟩
theorem Kp.trans {Bx:Nat} {X Y Z:World} (h:Kp Bx X Y) (k:Kp Bx Y Z):Kp Bx X Z :=
 ⟨k.os.trans h.os,k.tape.trans h.tape,k.output.trans h.output,Nat.le_trans h.size k.size,fun b=>k.box (h.box b),
  fun i hi hn=>(k.keep i (Nat.lt_of_lt_of_le hi h.size) (fun hm=>hn (h.mine i hi hm))).trans (h.keep i hi hn),
  fun i hi hm=>h.mine i hi (k.mine i (Nat.lt_of_lt_of_le hi h.size) hm),fun i o hi ho=>k.others i o (h.others i o hi ho) ho⟩
theorem Kp.still {Bx:Nat} {W W':World} (hb:HasBox Bx W) (hg:W.grownBy W' none):Kp Bx W W' :=
 have e:=hg.block Bx hb.lt (by simp)
 ⟨hg.os,hg.tape,hg.output,hg.size,fun h=>h.up e hg.size,fun k hk _=>hg.block k hk (by simp),fun k _ hm=>(mine_same e k).1 hm,
  fun k o hk _=>(hg.block k (qL hk) (by simp)).trans hk⟩
theorem Kp.cell {Bx:Nat} {W W':World} (h:Kp Bx W W') {k o:Nat} (hn:¬ Mine Bx W k) (hk:k < W.heap.size):W'.cell? ⟨k,o,none⟩ = W.cell? ⟨k,o,none⟩ :=
 World.cell?_of_block (a:=⟨k,o,none⟩) (h.keep k hk hn)
theorem Kp.safe {Bx:Nat} {W W':World} (h:Kp Bx W W') {k:Nat} (hn:¬ Mine Bx W k) (hk:k < W.heap.size):¬ Mine Bx W' k:=fun hm=>hn (h.mine k hk hm)
theorem kp_own {β:Type} {Bx B:Nat} {W0:World} (hb:HasBox Bx W0) (hB:W0.heap.size<=B):OwnFrom B (fun (_:β) W=>Kp Bx W0 W):=fun _ W W' row h hg hr=>by
 have hne:∀ k,k < W0.heap.size->some k≠row:=fun k hk e=>by have:=(hr k e.symm).1;omega
 have hbl:=hb.lt;have e:W'.heap[Bx]? = W.heap[Bx]?:=hg.block Bx (Nat.lt_of_lt_of_le hbl h.size) (hne Bx hbl);refine ⟨hg.os.trans h.os,hg.tape.trans h.tape,hg.output.trans h.output,Nat.le_trans h.size hg.size,fun b=>(h.box b).up e hg.size,
  fun k hk hn=>(hg.block k (Nat.lt_of_lt_of_le hk h.size) (hne k hk)).trans (h.keep k hk hn),fun k hk hm=>h.mine k hk ((mine_same e k).1 hm),fun k o hk ho=>?_⟩
 have hk0:=(qL hk);exact (hg.block k (Nat.lt_of_lt_of_le hk0 h.size) (hne k hk0)).trans (h.others k o hk ho)
theorem kp_round {Bx l:Nat} {W W3:World} {r r':Loop} (hne:Bx≠l) (hl:W.heap[l]? = some (.loop r)) (h:Kp Bx (W.putObj l (.loop r')) W3):Kp Bx W (W3.putObj l (.loop r)):=by
 have e1:(W.putObj l (.loop r')).heap[Bx]? = W.heap[Bx]?:=World.putObj_heap_other hne;have e2:(W3.putObj l (.loop r)).heap[Bx]? = W3.heap[Bx]?:=World.putObj_heap_other hne;have hs:W.heap.size<=W3.heap.size:=by have:=h.size;rwa [World.putObj_size] at this
 have hlt:l < W3.heap.size:=Nat.lt_of_lt_of_le (qL hl) hs;refine ⟨h.os,h.tape,h.output,by rw [World.putObj_size];exact hs,fun b=>(h.box (b.up e1 (by rw [World.putObj_size];exact Nat.le_refl _))).up e2 (by rw [World.putObj_size];exact Nat.le_refl _),fun k hk hn=>?_,fun k hk hm=>?_,fun k o hk ho=>?_⟩
 ·by_cases e:k = l
  ·subst e;rw [World.putObj_heap_same hlt,hl]
  ·rw [World.putObj_heap_other e,h.keep k (by rw [World.putObj_size];exact hk) (fun hm=>hn ((mine_same e1 k).1 hm)),World.putObj_heap_other e]
 ·exact (mine_same e1 k).1 (h.mine k (by rw [World.putObj_size];exact hk) ((mine_same e2 k).1 hm))
 ·by_cases e:k = l
  ·subst e;rw [hl] at hk
   cases hk
   exact World.putObj_heap_same hlt
  ·rw [World.putObj_heap_other e];exact h.others k o (by rw [World.putObj_heap_other e];exact hk) ho
def Yields (P:Program) (l:Nat) (encs:α->Array Value) (Bx:Nat) (xs:List α) (J Jx:List α->World->Prop):Prop :=
 ∀ (m:Nat) (pre:List α) (x:α) (W:World),pre ++ [x] <+: xs->J pre W->YieldAt Fence.wide m P l (encs x) W fun e W' =>
  (e = .returned (.bool true)/\J (pre ++ [x]) W'/\Kp Bx W W')∨(e = .returned (.bool false)/\Jx (pre ++ [x]) W'/\KeepsFrom (l + 1) W W')
def SeqOwn (P:Program) (g:Nat) (lb:Array Value) (encs:α->Array Value) (Bx:Nat) (xs:List α) (w:World):Prop :=
 ∀ (n l:Nat) (J Jx:List α->World->Prop) (W:World),w.grownBy W none->l < W.heap.size->OwnFrom W.heap.size J->OwnFrom W.heap.size Jx->Yields P l encs Bx xs J Jx->J [] W ->
  CallsIn Fence.wide n P g (#[.func (.yield l) #[] #[]] ++ lb) W fun e W'=>(∃ v,e = .returned v)/\(J xs W'∨∃ pre,pre <+: xs/\Jx pre W')
def rgPost (B Bx:Nat) (I Ix:List α->World->Prop) (xs:List α) (W:World):Exit->Act->World->Prop
 | .normal,_,W'=>Kp Bx W W'/\I xs W'
 | .ret,_,W'=>KeepsFrom B W W'/\Ix xs W'
 | _,_,_=>False
theorem range_law {g:Operand} {ps:Array Tmp} {assign body:Code} {Q:Exit->Act->World->Prop} {a:Act} {w:World} {n gf:Nat} {lb:Array Value} {encs:α->Array Value} {Bx:Nat} {xs:List α}
  (hg:a.eval g = .func (.func gf) #[] lb) (eg:∀ args w,(callFunc gf args).run P w = .ok (.enter gf args) w) (hbx:HasBox Bx w) (hseq:SeqOwn P gf lb encs Bx xs w) (hps:∀ x,(encs x).size = ps.size)
  (I Ix:List α->World->Prop) (hI:OwnFrom w.heap.size I) (hIx:OwnFrom w.heap.size Ix) (h0:I [] w) (a₁:α->Act)
  (hassign:∀ (l m:Nat) (x:α) (W:World) (K:Act->World->Prop),K (a₁ x) W->assign.wpIn (Fence.wide.inRound l) m P (Exit.then K (fun _ _ _=>False)) { tmps:=(ps.zip (encs x)).foldl (fun t (p,v)=>t.setIfInBounds p v) a.tmps,defers:=[] } W)
  (hbody:∀ (l m:Nat) (pre:List α) (x:α) (W:World),w.heap.size<=l->pre ++ [x] <+: xs->I pre W->body.wpIn (Fence.wide.inRound l) m P (rgPost w.heap.size Bx I Ix (pre ++ [x]) W) (a₁ x) W)
  (hdone:∀ (D:Nat) (W:World),w.heap.size<=D->I xs W->W.heap[D]? = some (.deferred (some []))->Q .normal { a with defers:={ target:=.collected D,args:=#[] } :: a.defers } W)
  (hstop:∀ (D:Nat) (pre:List α) (W:World),w.heap.size<=D->pre <+: xs->Ix pre W->W.heap[D]? = some (.deferred (some []))->Code.ret.wpIn Fence.wide n P Q { a with defers:={ target:=.collected D,args:=#[] } :: a.defers } W) :
  (Code.rangeFunc g ps assign body).wpIn Fence.wide n P Q a w:=by
 refine wpIn_rangeFunc fun fn hfn=>?_
 obtain ⟨D,hD⟩:=qE w.heap.size;obtain ⟨rec,hrec⟩:∃ rec:LoopState->Option Code->Loop,rec = fun st pe=>{ state:=st,pending:=pe,fn,tmps:=a.tmps,params:=ps,assign,body,defers:=w.heap.size }:=⟨_,rfl⟩
 obtain ⟨V,hV⟩:=qE ((w.alloc (.deferred (some []))).alloc (.loop (rec .ready none)));have hgV:w.grownBy V none:=by rw [← hV];exact grown_trans (World.grownBy_alloc w _ none) (World.grownBy_alloc _ _ none)
 have hVs:V.heap.size = D + 2:=by rw [← hV];simp [hD]
 have hVl:V.heap[D + 1]? = some (.loop (rec .ready none)):=by
  rw [← hV];have:=World.alloc_heap_new (w.alloc (.deferred (some []))) (.loop (rec .ready none))
  rwa [World.size_alloc,hD] at this
 have hVd:V.heap[D]? = some (.deferred (some [])):=by
  rw [← hV,← hD];exact (Below.heap_alloc _ _ _ (by simp)).trans (World.alloc_heap_new w _)
 have hbl:=hbx.lt;have hne:Bx≠D + 1:=by omega
 refine ⟨D + 1,[{ target:=.collected D,args:=#[] }],V,{ target:=.fn (.func gf) lb,args:=#[.func (.yield (D + 1)) #[] #[]] },V,gf,#[.func (.yield (D + 1)) #[] #[]] ++ lb,V,?_,?_,fun _ _=>trivial,?_,fun h=>(by cases h),?_⟩
 ·rw [← hV,hrec,← hD];exact run_enterLoop_outer _ _ _ _ _
 ·simp only [resolve,hg];simp [go_sem]
 ·simp [invoke,go_sem,eg]
 have own2:∀ {K:List α->World->Prop} {r:Loop},OwnFrom w.heap.size K->OwnFrom V.heap.size (fun pre W=>K pre W/\W.heap[D + 1]? = some (.loop r)/\W.heap[D]? = some (.deferred (some []))):=fun hK s A B row hs hg' hr=>by
  refine ⟨hK s A B row hs.1 hg' (fun r e=>?_),?_,?_⟩
  ·obtain ⟨h1,h2⟩:=hr r e;exact ⟨by omega,h2⟩
  ·rw [hg'.block (D + 1) (qL hs.2.1) (fun e=>by have:=(hr _ e.symm).1;omega)];exact hs.2.1
  ·rw [hg'.block D (qL hs.2.2) (fun e=>by have:=(hr _ e.symm).1;omega)];exact hs.2.2
 refine (hseq (n - 1) (D + 1) (fun pre W=>I pre W/\W.heap[D + 1]? = some (.loop (rec .ready none))/\W.heap[D]? = some (.deferred (some [])))
  (fun pre W=>Ix pre W/\W.heap[D + 1]? = some (.loop (rec .done (some .ret)))/\W.heap[D]? = some (.deferred (some []))) V hgV (by omega) (own2 hI) (own2 hIx) ?_ ⟨?_,hVl,hVd⟩).mono ?_
 ·rintro m pre x W hpx ⟨hi,hl,hk⟩;have hy:=run_yield (P:=P) (args:=encs x) hl (by rw [hrec];exact hps x);rw [hrec] at hy;have hlt:=(qL hl);refine ⟨fn,_,assign,body,hy,roundIn_of_wpIn hfn (hassign _ _ x W _ ⟨_,run_beginRound hl (by rw [hrec]),?_⟩)⟩;clear hy;have hl2:(W.putObj (D + 1) (.loop { rec .ready none with state:=.busy })).heap[D + 1]? = some (.loop { rec .ready none with state:=.busy }):=World.putObj_heap_same hlt;have hk2:(W.putObj (D + 1) (.loop { rec .ready none with state:=.busy })).heap[D]? = some (.deferred (some [])):=(World.putObj_heap_other (by omega)).trans hk;refine wpIn_mono (hbody _ _ pre x _ (by omega) hpx (hI.putObj _ hi (by omega) hl rfl)) ?_;rintro e a3 W3 hp
  cases e with
  | normal =>
   obtain ⟨hk3,hi3⟩:=hp;have hl3:=hk3.others _ _ hl2 rfl;have hr:=run_endRound (P:=P) none hl3;have hlt3:=(qL hl3);have hk4:=hk3.others _ _ hk2 rfl;have hk5:=kp_round (r:=rec .ready none) hne hl hk3;have hi5:=hI.putObj (.loop (rec .ready none)) hi3 (by omega) hl3 rfl;rw [hrec] at hr hk5 hi5 ⊢;exact ⟨_,_,hr,.inl ⟨rfl,⟨hi5,World.putObj_heap_same hlt3,(World.putObj_heap_other (by omega)).trans hk4⟩,hk5⟩⟩
  | ret =>
   obtain ⟨hk3,hi3⟩:=hp;have hl3:=hk3.same _ _ (by omega) hl2 rfl;have hr:=run_endRound (P:=P) (some .ret) hl3;have hlt3:=(qL hl3);have hk4:=hk3.same _ _ (by omega) hk2 rfl;have hi5:=hIx.putObj (.loop (rec .done (some .ret))) hi3 (by omega) hl3 rfl;have hkf:∀ o',KeepsFrom (D + 1 + 1) W (W3.putObj (D + 1) o'):=fun o'=>⟨by
    have:=hk3.size;rw [World.putObj_size] at this ⊢;exact this,fun k o hB h1 h2=>by
    rw [World.putObj_heap_other (by omega)];exact hk3.same k o (by omega) (by rw [World.putObj_heap_other (by omega)];exact h1) h2⟩
   rw [hrec] at hr hi5 ⊢;exact ⟨_,_,hr,.inr ⟨rfl,⟨hi5,World.putObj_heap_same hlt3,(World.putObj_heap_other (by omega)).trans hk4⟩,hkf _⟩⟩
  | exit id=>exact hp.elim
  | goto t=>exact hp.elim
  | panic ch=>exact hp.elim
  | outgrown=>exact hp.elim
 ·exact hI [] w V none h0 hgV (fun r e=>by cases e)
 ·rintro e W2 ⟨⟨v,rfl⟩,(⟨hi,hl,hk⟩ | ⟨pre,hpre,hi,hl,hk⟩)⟩
  ·have hr:=run_endLoop (P:=P) hl (by rw [hrec];simp);have hi5:=hI.putObj (.loop { rec .ready none with state:=.exhausted }) hi (by omega) hl rfl;rw [hrec] at hr hi5;exact ⟨none,_,hr,hdone D _ (by omega) hi5 ((World.putObj_heap_other (by omega)).trans hk)⟩
  ·have hr:=run_endLoop (P:=P) hl (by rw [hrec];simp);have hi5:=hIx.putObj (.loop { rec .done (some .ret) with state:=.exhausted }) hi (by omega) hl rfl;rw [hrec] at hr hi5;exact ⟨some .ret,_,hr,hstop D pre _ (by omega) hpre hi5 ((World.putObj_heap_other (by omega)).trans hk)⟩
def marks (ds:List Nat):List Deferred:=ds.map fun D=>{ target:=.collected D,args:=#[] }
def Open (B:Nat) (ds:List Nat) (W:World):Prop:=ds.Nodup/\∀ D∈ds,B<=D/\W.heap[D]? = some (.deferred (some []))
theorem Open.cons {B D:Nat} {ds:List Nat} {w W:World} (h:Open B ds w) (hs:∀ D∈ds,W.heap[D]? = some (.deferred (some []))) (hD:B<=D) (hw:w.heap.size<=D) (hk:W.heap[D]? = some (.deferred (some []))):Open B (D :: ds) W:=by
 refine ⟨List.nodup_cons.2 ⟨fun hm=>?_,h.1⟩,fun E hE=>?_⟩
 ·have:=(Array.getElem?_eq_some_iff.1 (h.2 D hm).2).1;omega
 ·rcases List.mem_cons.1 hE with rfl | hE
  ·exact ⟨hD,hk⟩
  ·exact ⟨(h.2 E hE).1,hs E hE⟩
theorem leaves_marks {n:Nat} {fn:Func} {tmps:Array Value} {R:Ending->World->Prop} {B:Nat} (K:World->Prop) (hK:OwnFrom B (fun (_:Unit) W=>K W)) (hend:∀ W,K W->LeavesInM Fence.wide n P fn tmps R [] .returning W) :
  ∀ (ds:List Nat) (W:World),Open B ds W->K W->LeavesInM Fence.wide n P fn tmps R (marks ds) .returning W
 | [],W,_,h=>hend W h
 | D :: ds,W,ho,h=>by
  obtain ⟨hB,hk⟩:=ho.2 D (by simp);have hn:=List.nodup_cons.1 ho.1;refine ⟨by simp,.inl ⟨D,_,rfl,run_takeDeferred hk,leaves_marks K hK hend ds _ ⟨hn.2,fun E hE=>?_⟩ (hK.putObj (s:=()) _ h hB hk rfl)⟩⟩;obtain ⟨h1,h2⟩:=ho.2 E (by simp [hE]);have hne:E≠D:=fun e=>hn.1 (by rw [← e];exact hE)
  exact ⟨h1,(World.putObj_heap_other hne).trans h2⟩
end
end Go.Proofs.YtneojimodomohaaGreat
