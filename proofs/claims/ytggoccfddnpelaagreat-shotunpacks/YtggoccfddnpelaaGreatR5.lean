/- SpT, Cnt0, Sp2, SpC, as one. -/
import Derived.Test.YtggoccfddnpelaaGreatR4
namespace Go.Proofs.YtggoccfddnpelaaGreat
open It
set_option maxRecDepth 100000
namespace Sp
def allEnts (L:List Ino):List En:=L.flatMap (fun x=>x.ents)
/-- Does an entry name a number? -/
def toNo (c:Nat) (e:En):Bool:=e.2.2.1 == (c:Int)
theorem one_in (q:En->Bool):∀ (L:List Ino) (p:Nat),(entsAt L p).countP q<=(allEnts L).countP q
  | [],p=>by simp [entsAt]
  | x :: L, 0 => by
    have e:entsAt (x :: L) 0 = x.ents:=rfl
    rw [e,allEnts,List.flatMap_cons,List.countP_append]
    omega
  | x :: L, p + 1 => by
    have e:entsAt (x :: L) (p + 1) = entsAt L p:=rfl
    have ih:=one_in q L p
    unfold allEnts at ih
    rw [e,allEnts,List.flatMap_cons,List.countP_append]
    omega
theorem two_in (q:En->Bool):∀ (L:List Ino) (p p':Nat),p≠p'->(entsAt L p).countP q + (entsAt L p').countP q<=(allEnts L).countP q
  | [],p,p',_=>by simp [entsAt]
  | x :: L,0,0,h=>absurd rfl h
  | x :: L, 0, p' + 1, _ => by
    have e:entsAt (x :: L) 0 = x.ents:=rfl
    have e':entsAt (x :: L) (p' + 1) = entsAt L p':=rfl
    have ih:=one_in q L p'
    unfold allEnts at ih
    rw [e,e',allEnts,List.flatMap_cons,List.countP_append]
    omega
  | x :: L, p + 1, 0, _ => by
    have e:entsAt (x :: L) 0 = x.ents:=rfl
    have e':entsAt (x :: L) (p + 1) = entsAt L p:=rfl
    have ih:=one_in q L p
    unfold allEnts at ih
    rw [e,e',allEnts,List.flatMap_cons,List.countP_append]
    omega
  | x :: L, p + 1, p' + 1, h => by
    have e:entsAt (x :: L) (p + 1) = entsAt L p:=rfl
    have e':entsAt (x :: L) (p' + 1) = entsAt L p':=rfl
    have ih:=two_in q L p p' (by omega)
    unfold allEnts at ih
    rw [e,e',allEnts,List.flatMap_cons,List.countP_append]
    omega
/-- Each entry names an inode, no folder has two names, the root none. -/
structure Tree (L:List Ino):Prop where
  inr:∀ p,∀ e∈entsAt L p,0<=e.2.2.1/\e.2.2.1 < L.length/\e.1.size<=32/\e.2.2.1≠0
  one:∀ c,dirAt L c = true->(allEnts L).countP (toNo c)<=1
  root:dirAt L 0 = true
/-- A folder is named in another one. -/
def Child (L:List Ino) (p c:Nat):Prop:=(∃ e∈entsAt L p,toNo c e = true)/\dirAt L c = true
/-- A folder is d steps below another one. -/
def Anc (L:List Ino):Nat->Nat->Nat->Prop
  | 0,a,c=>a = c
  | d + 1,a,c=>∃ p,Anc L d a p/\Child L p c
theorem dirAt_lt {L:List Ino} {c:Nat} (h:dirAt L c = true):c < L.length:=by
  unfold dirAt at h
  split at h
  · rename_i x hx
    exact (List.getElem?_eq_some_iff.1 hx).1
  · cases h
theorem Child.le {L:List Ino} {p c:Nat} (h:Child L p c):1<=(entsAt L p).countP (toNo c):=by
  obtain ⟨⟨e,he,hc⟩,_⟩:=h
  exact List.countP_pos_iff.2 ⟨e,he,hc⟩
theorem child_one {L:List Ino} (ht:Tree L) {p p' c:Nat} (h:Child L p c) (h':Child L p' c):p = p':=by
  by_cases e:p = p'
  · exact e
  · have h1 := h.le
    have h2:=h'.le
    have h3:=two_in (toNo c) L p p' e
    have h4:=ht.one c h.2
    omega
theorem child_root {L:List Ino} (ht:Tree L) {p:Nat} (h:Child L p 0):False:=by
  obtain ⟨⟨e,he,hc⟩,_⟩:=h
  have:=(ht.inr p e he).2.2.2
  simp [toNo] at hc
  exact this hc
theorem anc_trans {L:List Ino} {a b:Nat} {d:Nat} (h:Anc L d a b):∀ (d' c:Nat),Anc L d' b c->Anc L (d + d') a c
  | 0, c, h' => by
    have e:b = c:=h'
    subst e
    exact h
  | d' + 1, c, h' => by
    obtain ⟨p,h1,h2⟩:=h'
    exact ⟨p,anc_trans h d' p h1,h2⟩
theorem anc_split {L:List Ino} {a:Nat} {d:Nat}:∀ (d' c:Nat),Anc L (d + d') a c->∃ b,Anc L d a b/\Anc L d' b c
  | 0,c,h=>⟨c,h,rfl⟩
  | d' + 1, c, h => by
    obtain ⟨p,h1,h2⟩:=h
    obtain ⟨b,h3,h4⟩:=anc_split d' p h1
    exact ⟨b,h3,p,h4,h2⟩
theorem anc_back {L:List Ino} (ht:Tree L) {a a':Nat}:∀ (d c:Nat),Anc L d a c->Anc L d a' c->a = a'
  | 0, c, h, h' => by
    have e:a = c:=h
    have e':a' = c:=h'
    omega
  | d + 1, c, h, h' => by
    obtain ⟨p,h1,h2⟩:=h
    obtain ⟨p',h1',h2'⟩:=h'
    obtain rfl:=child_one ht h2 h2'
    exact anc_back ht d p h1 h1'
theorem anc_child {L:List Ino} {a b c d:Nat} (h:Child L a b) (h':Anc L d b c):Anc L (d + 1) a c:=by
  have:=anc_trans (show Anc L 1 a b from ⟨a,rfl,h⟩) d c h'
  rwa [Nat.add_comm] at this
/-- A folder is found on one level alone. -/
theorem anc_level {L:List Ino} (ht:Tree L) {j k c:Nat} (h:Anc L j 0 c) (h':Anc L k 0 c):j = k:=by
  have key:∀ (j k c:Nat),j < k->Anc L j 0 c->Anc L k 0 c->False:=fun j k c hlt h h'=>by
    rw [show k = (k - j) + j by omega] at h'
    obtain ⟨b,h1,h2⟩:=anc_split j c h'
    obtain rfl:=anc_back ht j c h h2
    rw [show k - j = (k - j - 1) + 1 by omega] at h1
    obtain ⟨p,_,h3⟩:=h1
    exact child_root ht h3
  rcases Nat.lt_trichotomy j k with hl | hl | hl
  · exact (key j k c hl h h').elim
  · exact hl
  · exact (key k j c hl h' h).elim
theorem anc_cycle {L:List Ino} (ht:Tree L) {m k x:Nat} (h:Anc L m 0 x) (h':Anc L k x x):k = 0:=by
  have:=anc_level ht h (anc_trans h k x h')
  omega
/-- As many folders as there are levels. -/
theorem anc_list {L : List Ino} (ht : Tree L) : ∀ (d c : Nat), Anc L d 0 c → ∃ l : List Nat, l.length = d + 1 ∧ l.Nodup ∧ ∀ y ∈ l, y < L.length ∧ ∃ j, j ≤ d ∧ Anc L j 0 y
  | 0, c, h => by
    have e:0 = c:=h
    subst e
    exact ⟨[0],rfl,by simp,fun y hy=>by
      rw [List.mem_singleton.1 hy]
      exact ⟨dirAt_lt ht.root,0,Nat.le_refl _,rfl⟩⟩
  | d + 1, c, h => by
    obtain ⟨p,h1,h2⟩:=h
    obtain ⟨l,hl,hn,hm⟩:=anc_list ht d p h1
    have hc:Anc L (d + 1) 0 c:=⟨p,h1,h2⟩
    refine ⟨c :: l,by simp [hl],List.nodup_cons.2 ⟨fun hmem=>?_,hn⟩,fun y hy=>?_⟩
    · obtain ⟨_, j, hj, ha⟩ := hm c hmem
      have:=anc_level ht ha hc
      omega
    · rcases List.mem_cons.1 hy with rfl | hy
      · exact ⟨dirAt_lt h2.2,d + 1,Nat.le_refl _,hc⟩
      · obtain ⟨h3, j, hj, ha⟩ := hm y hy
        exact ⟨h3,j,by omega,ha⟩
theorem anc_lt {L:List Ino} (ht:Tree L) {d c:Nat} (h:Anc L d 0 c):d < L.length:=by
  obtain ⟨l,hl,hn,hm⟩:=anc_list ht d c h
  have:=List.Nodup.length_le_of_subset hn (l₂:=List.range L.length) (fun y hy=>List.mem_range.2 (hm y hy).1)
  rw [List.length_range] at this
  omega
theorem not_deep {L : List Ino} (ht : Tree L) : ∀ (f x : Nat), x < L.length → ¬ deep L f x → ∃ c, Anc L f x c
  | 0,x,_,_=>⟨x,rfl⟩
  | f + 1, x, hx, h => by
    by_cases hb:∃ e∈entsAt L x,dirAt L e.2.2.1.toNat = true/\¬ deep L f e.2.2.1.toNat
    · obtain ⟨e, he, hd, hn⟩ := hb
      obtain ⟨c,hc⟩:=not_deep ht f _ (dirAt_lt hd) hn
      refine ⟨c,anc_child ⟨⟨e,he,?_⟩,hd⟩ hc⟩
      have:=(ht.inr x e he).1
      simp [toNo]
      omega
    · refine absurd ?_ h
      refine ⟨hx,fun e he=>⟨?_,fun hd=>?_⟩⟩
      · have := ht.inr x e he
        exact ⟨this.1,this.2.1,this.2.2.1⟩
      · by_cases hn : deep L f e.2.2.1.toNat
        · exact hn
        · exact absurd ⟨e,he,hd,hn⟩ hb
theorem deep_all {L:List Ino} (ht:Tree L) (hL:L.length<=24) {m x:Nat} (h:Anc L m 0 x) (hx:x < L.length):deep L 24 x:=by
  by_cases hd:deep L 24 x
  · exact hd
  · obtain ⟨c, hc⟩ := not_deep ht 24 x hx hd
    have:=anc_lt ht (anc_trans h 24 c hc)
    omega
theorem mem_step {L:List Ino} {f:Nat} {path:ByteArray} {e:En} {z:Nat × ByteArray} (h:z∈step L f path e):dirAt L e.2.2.1.toNat = true/\z∈walk L f e.2.2.1.toNat (way path e.1):=by
  unfold step at h
  split at h
  · rename_i hd
    exact ⟨hd,h⟩
  · cases h
theorem child_of {L:List Ino} (ht:Tree L) {no:Nat} {e:En} (he:e∈entsAt L no) (hd:dirAt L e.2.2.1.toNat = true):Child L no e.2.2.1.toNat:=by
  refine ⟨⟨e,he,?_⟩,hd⟩
  have:=(ht.inr no e he).1
  simp [toNo]
  omega
theorem walk_mem {L:List Ino} (ht:Tree L):∀ (f no:Nat) (path:ByteArray) (z:Nat × ByteArray),z∈walk L f no path->∃ d,Anc L d no z.1
  | 0,_,_,z,h=>by cases h
  | f + 1, no, path, z, h => by
    rw [walk_succ] at h
    rcases List.mem_cons.1 h with rfl | h
    · exact ⟨0,rfl⟩
    · obtain ⟨e, he, hz⟩ := List.mem_flatMap.1 h
      obtain ⟨hd,hz⟩:=mem_step hz
      obtain ⟨d,ha⟩:=walk_mem ht f _ _ z hz
      exact ⟨d + 1,anc_child (child_of ht he hd) ha⟩
theorem walk_has {L:List Ino} (ht:Tree L):∀ (f no:Nat) (path:ByteArray) (d c:Nat),Anc L d no c->d < f->∃ z∈walk L f no path,z.1 = c
  | 0,_,_,d,_,_,h=>by omega
  | f + 1, no, path, 0, c, h, _ => by
    have e:no = c:=h
    subst e
    exact ⟨(no,path),by rw [walk_succ];simp,rfl⟩
  | f + 1, no, path, d + 1, c, h, hlt => by
    rw [show d + 1 = 1 + d by omega] at h
    obtain ⟨b,h1,h2⟩:=anc_split d c h
    obtain ⟨p,hp,hc⟩:=h1
    have e:no = p:=hp
    subst e
    obtain ⟨⟨e,he,hb⟩,hd⟩:=hc
    have hbn:e.2.2.1.toNat = b:=by simp [toNo] at hb;omega
    obtain ⟨z,hz,hzc⟩:=walk_has ht f b (way path e.1) d c h2 (by omega)
    refine ⟨z,?_,hzc⟩
    rw [walk_succ]
    refine List.mem_cons_of_mem _ (List.mem_flatMap.2 ⟨e,he,?_⟩)
    unfold step
    rw [hbn,if_pos hd]
    exact hz
theorem ents_pair {L : List Ino} (ht : Tree L) (p : Nat) : (entsAt L p).Pairwise (fun e e' => dirAt L e.2.2.1.toNat = true → e.2.2.1.toNat ≠ e'.2.2.1.toNat) := by
  have key:∀ l:List En,(∀ e∈l,0<=e.2.2.1)->(∀ c,dirAt L c = true->l.countP (toNo c)<=1)->l.Pairwise (fun e e'=>dirAt L e.2.2.1.toNat = true->e.2.2.1.toNat≠e'.2.2.1.toNat):=by
    intro l
    induction l with
    | nil=>intro _ _;exact List.Pairwise.nil
    | cons e r ih =>
      intro h0 h
      refine List.pairwise_cons.2 ⟨fun e' he' hd hc=>?_,ih (fun x hx=>h0 x (List.mem_cons_of_mem _ hx)) fun c hc=>?_⟩
      · have h1 := h _ hd
        have g0:=h0 e (by simp)
        have g1:=h0 e' (List.mem_cons_of_mem _ he')
        rw [List.countP_cons,if_pos (by simp [toNo];omega)] at h1
        have:0 < r.countP (toNo e.2.2.1.toNat):=List.countP_pos_iff.2 ⟨e',he',by simp [toNo];omega⟩
        omega
      · have := h c hc
        rw [List.countP_cons] at this
        omega
  exact key _ (fun e he=>(ht.inr p e he).1) fun c hc=>Nat.le_trans (one_in (toNo c) L p) (ht.one c hc)
theorem walk_apart {L : List Ino} (ht : Tree L) : ∀ (f no : Nat) (path : ByteArray) (m : Nat), Anc L m 0 no → (walk L f no path).Pairwise (fun x y => x.1 ≠ y.1)
  | 0,_,_,_,_=>List.Pairwise.nil
  | f + 1, no, path, m, hm => by
    rw [walk_succ]
    refine List.pairwise_cons.2 ⟨fun z hz hc=>?_,List.pairwise_flatMap.2 ⟨fun e he=>?_,?_⟩⟩
    · obtain ⟨e, he, hz⟩ := List.mem_flatMap.1 hz
      obtain ⟨hd,hz⟩:=mem_step hz
      obtain ⟨d,ha⟩:=walk_mem ht f _ _ z hz
      have:=anc_cycle ht hm (show Anc L (d + 1) no no from by rw [← hc] at ha;exact anc_child (child_of ht he hd) ha)
      omega
    · unfold step
      split
      · rename_i hd
        exact walk_apart ht f _ _ (m + 1) ⟨no,hm,child_of ht he hd⟩
      · exact List.Pairwise.nil
    · have hp := ents_pair ht no
      refine List.Pairwise.imp_of_mem (fun {e e'} he he' hne z hz z' hz' hc=>?_) hp
      obtain ⟨hd,hz⟩:=mem_step hz
      obtain ⟨hd',hz'⟩:=mem_step hz'
      obtain ⟨d,ha⟩:=walk_mem ht f _ _ z hz
      obtain ⟨d',ha'⟩:=walk_mem ht f _ _ z' hz'
      rw [← hc] at ha'
      have c1:=child_of ht he hd
      have c2:=child_of ht he' hd'
      have h12:=hne hd
      have key:∀ (a b d d':Nat),Child L no a->Child L no b->a≠b->Anc L d a z.1->Anc L d' b z.1->d<=d'->False:=fun a b d d' ca cb hab h1 h2 hle=>by
        rw [show d' = (d' - d) + d by omega] at h2
        obtain ⟨x,h3,h4⟩:=anc_split d _ h2
        obtain rfl:=anc_back ht d _ h1 h4
        cases hk:d' - d with
        | zero =>
          rw [hk] at h3
          have e:b = a:=h3
          exact hab e.symm
        | succ k =>
          rw [hk] at h3
          obtain ⟨p,h5,h6⟩:=h3
          obtain rfl:=child_one ht ca h6
          have:=anc_cycle ht hm (anc_child cb h5)
          omega
      rcases Nat.le_total d d' with hle | hle
      · exact key _ _ d d' c1 c2 h12 ha ha' hle
      · exact key _ _ d' d c2 c1 (Ne.symm h12) ha' ha hle
theorem anc_dir {L:List Ino} (ht:Tree L) {d c:Nat} (h:Anc L d 0 c):dirAt L c = true:=by
  cases d with
  | zero =>
    have e:0 = c:=h
    subst e
    exact ht.root
  | succ d =>
    obtain ⟨p,_,hc⟩:=h
    exact hc.2
/-- The numbers of all folders. -/
def dirs (L:List Ino):List Nat:=(List.range L.length).filter (dirAt L)
theorem mem_dirs {L:List Ino} {c:Nat}:c∈dirs L ↔ dirAt L c = true:=by
  unfold dirs
  rw [List.mem_filter,List.mem_range]
  exact ⟨fun h=>h.2,fun h=>⟨dirAt_lt h,h⟩⟩
theorem walk_nodup {L:List Ino} (ht:Tree L) {f no m:Nat} {path:ByteArray} (h:Anc L m 0 no):((walk L f no path).map (·.1)).Nodup:=by
  refine List.pairwise_map.2 (walk_apart ht f no path m h)
theorem walk_len {L:List Ino} (ht:Tree L) (f:Nat) (path:ByteArray):(walk L f 0 path).length<=(dirs L).length:=by
  have h:=List.Nodup.length_le_of_subset (walk_nodup ht (f:=f) (path:=path) (show Anc L 0 0 0 from rfl)) (l₂:=dirs L) (fun c hc=>by
    obtain ⟨z,hz,rfl⟩:=List.mem_map.1 hc
    obtain ⟨d,ha⟩:=walk_mem ht f 0 path z hz
    exact mem_dirs.2 (anc_dir ht ha))
  rwa [List.length_map] at h
/-- All folders are gone through, just where each is below the root. -/
theorem walk_all {L : List Ino} (ht : Tree L) (hL : L.length ≤ 24) (path : ByteArray) : (walk L 24 0 path).length = (dirs L).length ↔ ∀ c, dirAt L c = true → ∃ d, Anc L d 0 c := by
  have hn:=walk_nodup ht (f:=24) (path:=path) (show Anc L 0 0 0 from rfl)
  have hsub:∀ c∈(walk L 24 0 path).map (·.1),c∈dirs L:=fun c hc=>by
    obtain ⟨z,hz,rfl⟩:=List.mem_map.1 hc
    obtain ⟨d,ha⟩:=walk_mem ht 24 0 path z hz
    exact mem_dirs.2 (anc_dir ht ha)
  have hdn:(dirs L).Nodup:=List.Pairwise.filter _ List.nodup_range
  constructor
  · intro he c hc
    by_cases hm:c∈(walk L 24 0 path).map (·.1)
    · obtain ⟨z, hz, rfl⟩ := List.mem_map.1 hm
      exact walk_mem ht 24 0 path z hz
    · have := List.Nodup.length_le_of_subset (List.nodup_cons.2 ⟨hm, hn⟩) (l₂ := dirs L) (fun y hy => by
        rcases List.mem_cons.1 hy with rfl | hy
        · exact mem_dirs.2 hc
        · exact hsub y hy)
      simp only [List.length_cons,List.length_map] at this
      omega
  · intro h
    have h1:=walk_len ht 24 path
    have h2:=List.Nodup.length_le_of_subset hdn (l₂:=(walk L 24 0 path).map (·.1)) (fun c hc=>by
      obtain ⟨d,ha⟩:=h c (mem_dirs.1 hc)
      have:=anc_lt ht ha
      obtain ⟨z,hz,hzc⟩:=walk_has ht 24 0 path d c ha (by omega)
      exact List.mem_map.2 ⟨z,hz,hzc⟩)
    rw [List.length_map] at h2
    omega
end Sp
namespace Sp
def lkOf (L:List Ino) (no:Int):Int:=((L[no.toNat]?).getD zeroI).links
def gen0 (L:List Ino):Int:=((L[0]?).getD zeroI).gen
def startK (L:List Ino) (k:Nat):List ((Int × Int) × Int):=((used L).take k).foldl (fun M h=>mset M h (lkOf L h.1)) []
def start (L:List Ino):List ((Int × Int) × Int):=mset (startK L (used L).length) (0,gen0 L) 0
theorem startK_succ {L:List Ino} {k:Nat} {h:Int × Int} (hk:(used L)[k]? = some h):startK L (k + 1) = mset (startK L k) h (lkOf L h.1):=by
  unfold startK
  rw [List.take_add_one,hk,Option.toList_some,List.foldl_append]
  rfl
/-- Each entry takes one away; one that has none left: no. -/
def eat (M:List ((Int × Int) × Int)):List En->Option (List ((Int × Int) × Int))
  | []=>some M
  | e :: r=>if mval M e.2.2 = 0 then none else eat (mset M e.2.2 (mval M e.2.2 - 1)) r
theorem eat_cons (M:List ((Int × Int) × Int)) (e:En) (r:List En):eat M (e :: r) = if mval M e.2.2 = 0 then none else eat (mset M e.2.2 (mval M e.2.2 - 1)) r:=rfl
theorem eat_append:∀ (a b:List En) (M:List ((Int × Int) × Int)),eat M (a ++ b) = (eat M a).bind fun M'=>eat M' b
  | [],b,M=>rfl
  | e :: a, b, M => by
    rw [List.cons_append,eat_cons,eat_cons]
    by_cases h:mval M e.2.2 = 0
    · rw [if_pos h, if_pos h]
      rfl
    · rw [if_neg h, if_neg h]
      exact eat_append a b _
def cntB (L:List Ino):Bool:=match eat (start L) (allEnts L) with | some M=>M.all (fun p=>p.2 == 0) | none=>false
/-- What has been eaten ahead of the j-th entry of the k-th inode. -/
def sofar (L:List Ino) (k j:Nat):List En:=allEnts (L.take k) ++ (entsAt L k).take j
theorem sofar_zero (L:List Ino) (k:Nat):sofar L k 0 = allEnts (L.take k):=by simp [sofar]
theorem sofar_next {L:List Ino} {k j:Nat} {e:En} (h:(entsAt L k)[j]? = some e):sofar L k (j + 1) = sofar L k j ++ [e]:=by
  unfold sofar
  rw [List.take_add_one,h]
  simp
theorem sofar_end {L:List Ino} {k j:Nat} (hk:k < L.length) (h:(entsAt L k).length = j):sofar L k j = allEnts (L.take (k + 1)):=by
  unfold sofar allEnts
  have e2:entsAt L k = L[k].ents:=by simp [entsAt,List.getElem?_eq_getElem hk]
  rw [← h,List.take_length,List.take_add_one,List.getElem?_eq_getElem hk,Option.toList_some,List.flatMap_append,e2]
  simp
theorem sofar_pre {L:List Ino} {k j:Nat} {e:En} (hk:k < L.length) (h:(entsAt L k)[j]? = some e):∃ r,allEnts L = sofar L k j ++ e :: r:=by
  have h1:allEnts L = allEnts (L.take k) ++ (entsAt L k ++ allEnts (L.drop (k + 1))):=by
    have e1:L = L.take k ++ (L[k] :: L.drop (k + 1)):=by rw [← List.drop_eq_getElem_cons hk,List.take_append_drop]
    have e2:entsAt L k = L[k].ents:=by simp [entsAt,List.getElem?_eq_getElem hk]
    rw [e2]
    unfold allEnts
    conv=>lhs;rw [e1]
    rw [List.flatMap_append,List.flatMap_cons]
  obtain ⟨hj,he⟩:=List.getElem?_eq_some_iff.1 h
  have h2:entsAt L k = (entsAt L k).take j ++ (e :: (entsAt L k).drop (j + 1)):=by
    rw [← he,← List.drop_eq_getElem_cons hj,List.take_append_drop]
  refine ⟨(entsAt L k).drop (j + 1) ++ allEnts (L.drop (k + 1)),?_⟩
  rw [h1,sofar]
  conv=>lhs;rw [h2]
  simp
theorem eat_no {L:List Ino} {k j:Nat} {e:En} {M:List ((Int × Int) × Int)} (hk:k < L.length) (h:(entsAt L k)[j]? = some e) (hm:eat (start L) (sofar L k j) = some M) (h0:mval M e.2.2 = 0):cntB L = false:=by
  obtain ⟨r,hr⟩:=sofar_pre hk h
  unfold cntB
  rw [hr,eat_append,hm]
  show (match eat M (e :: r) with | some M=>M.all (fun p=>p.2 == 0) | none=>false) = false
  unfold eat
  rw [if_pos h0]
theorem eat_yes {L:List Ino} {k j:Nat} {e:En} {M:List ((Int × Int) × Int)} (h:(entsAt L k)[j]? = some e) (hm:eat (start L) (sofar L k j) = some M) (h0:mval M e.2.2≠0):eat (start L) (sofar L k (j + 1)) = some (mset M e.2.2 (mval M e.2.2 - 1)):=by
  rw [sofar_next h,eat_append,hm]
  show eat M [e] = _
  unfold eat
  rw [if_neg h0]
  rfl
theorem eat_end {L:List Ino} {M:List ((Int × Int) × Int)} {n:Nat} (hn:L.length = n) (hm:eat (start L) (allEnts (L.take n)) = some M):cntB L = M.all (fun p=>p.2 == 0):=by
  rw [← hn,List.take_length] at hm
  unfold cntB
  rw [hm]
/-- The map's keys are apart, its numbers small. -/
def Small (M:List ((Int × Int) × Int)):Prop:=(M.map (·.1)).Nodup/\∀ p∈M,0<=p.2/\p.2<=64
theorem Small.nil:Small []:=⟨by simp,fun p hp=>by cases hp⟩
theorem Small.set {M:List ((Int × Int) × Int)} (h:Small M) (g:Int × Int) {v:Int} (h0:0<=v) (h1:v<=64):Small (mset M g v):=by
  obtain ⟨h2,h3⟩:=mset_keys h.1 g v
  refine ⟨h2,fun p hp=>?_⟩
  rcases (h3 p.1 p.2).1 hp with ⟨_,h4⟩ | ⟨_,h4⟩
  · omega
  · exact h.2 _ h4
theorem Small.val {M:List ((Int × Int) × Int)} (h:Small M) (g:Int × Int):0<=mval M g/\mval M g<=64:=by
  by_cases hm:∃ u,(g,u)∈M
  · obtain ⟨u, hu⟩ := hm
    rw [mval_mem h.1 (p:=(g,u)) hu]
    exact h.2 _ hu
  · rw [mval_out (fun p hp ep => hm ⟨p.2, by rw [← ep]; exact hp⟩)]
    omega
theorem find_val {M:List ((Int × Int) × Int)} {g:Int × Int} (h:mval M g≠0):∃ i,mfind M g 0 = some (i,mval M g):=by
  unfold mval at h ⊢
  cases e:mfind M g 0 with
  | none=>rw [e] at h;exact absurd rfl h
  | some q=>exact ⟨q.1,rfl⟩
end Sp
end Go.Proofs.YtggoccfddnpelaaGreat
namespace Go.Proofs.YtggoccfddnpelaaGreat
open Go.ChangeShapes Go.WideShapes Go.ChangeAt Go.RowKit Go.Deep It
set_option maxRecDepth 100000
namespace Sp
/-- A folder's entries are right, and as many as its size. -/
def fold (x:Ino):Prop:=x.kind = 2->Fo.Right x.ents x.next/\x.size = x.ents.length
/-- All folders are so. -/
def folds (L:List Ino):Prop:=∀ x∈L,fold x
open Classical in
noncomputable def foldsB (L:List Ino):Bool:=decide (folds L)
open Classical in
theorem foldsB_yes {L:List Ino} (h:folds L):foldsB L = true:=by
  unfold foldsB
  exact decide_eq_true h
open Classical in
theorem foldsB_no {L:List Ino} (h:¬ folds L):foldsB L = false:=by
  unfold foldsB
  exact decide_eq_false h
/-- Names that can be. -/
def okN (L:List Rw):Prop:=∀ x∈L,∀ e∈x.i.ents,e.1.size<=maxLen
end Sp
set_option maxHeartbeats 4000000 in
theorem rightFolders_any {S : Nat → Prop} (v : Value) (L : List Rw) (w : World) (hv : TabAt S w v L) (hok : Sp.okN L) :
    Calls Tryz.prog 86 #[v] w fun e w'=>e = .returned (.bool (Sp.foldsB (pl L)))/\Below w.heap.size w w':=by
  obtain ⟨ao,cap,rfl,hm,hx⟩:=hv.open
  clear hv
  unfold maxLen at hm
  obtain ⟨n,hn⟩:∃ n,L.length = n:=⟨_,rfl⟩
  rw [hn] at hm ⊢
  have HN:Hid (L.length = n):=hn
  have HX:Hid (∀ i x,L[i]? = some x->(∃ b off,ao = some ⟨b,off,none⟩/\b < w.heap.size/\eight w b (off + i * 8) x)/\Good S w x):=hx
  have HOK:Hid (Sp.okN L):=hok
  obtain ⟨r,hr⟩:∃ r,Sp.foldsB (pl L) = r:=⟨_,rfl⟩
  rw [hr]
  have HR:Hid (Sp.foldsB (pl L) = r):=hr
  clear hn hx hr hok
  go_enter Tryz.func86,Tryz.ntmps86
  go_wp2
  go_loopw [7] (fun i wr=>∃ k:Nat,k<=n/\i = .int .i64 k/\Hid (∀ y∈L.take k,Sp.fold y.i)/\Hid (Below w.heap.size w wr)) (fun i _=>n - (intOf i).toNat)
  case atStart=>exact ⟨0,Nat.zero_le _,rfl,fun y hy=>(by simp at hy),Below.refl _ _⟩
  case round =>
    obtain ⟨k,hk,rfl,HP,HB⟩:=hrel
    have hsz:=HB.out.size
    by_cases hlt:k < n
    · obtain ⟨x, hxk⟩ : ∃ x, L[k]? = some x := ⟨_, List.getElem?_eq_getElem (by rw [HN.out]; exact hlt)⟩
      have HXK:Hid (L[k]? = some x):=hxk
      obtain ⟨⟨b,off,rfl,hB,hc⟩,hg⟩:=HX.out k x hxk
      obtain ⟨c0,c1,c2,c3,c4,c5,c6,c7⟩:=hc.below HB.out hB
      have HG:Hid (Good S (wr.alloc (BIx x)) x):=(hg.up HB.out).up ((Below.refl _ _).alloc (Nat.le_refl _) _)
      have HSM:Hid (∀ e∈x.i.ents,e.1.size<=maxLen):=HOK.out x (List.mem_of_getElem? hxk)
      have hlt':(k:Int) < (n:Int):=by omega
      have HB1:Hid (Below w.heap.size w (wr.alloc (BIx x))):=HB.out.alloc hsz _
      have HEN:Hid (x.en = x.i.ents.length):=hg.len.2
      have HSUC:Hid (Sp.fold x.i->∀ y∈L.take (k + 1),Sp.fold y.i):=fun h y hy=>by
        rw [List.take_add_one,HXK.out] at hy
        rcases List.mem_append.1 hy with hy | hy
        · exact HP.out y hy
        · simp at hy
          subst hy
          exact h
      have HBAD:Hid (¬ Sp.fold x.i->r = false):=fun h=>by
        rw [← HR.out]
        exact Sp.foldsB_no fun ha=>h (ha x.i (List.mem_map_of_mem (List.mem_of_getElem? HXK.out)))
      obtain ⟨⟨q0,q1,q2,q3,q4,q5,q6,q7⟩,-⟩:=eight_of (heap_alloc_new wr (BIx x))
      clear hc hg hxk
      by_cases hkd:x.i.kind = 2
      · have hk2 : (x.i.kind == 2) = true := by simp [hkd]
        rcases Fo.err_or x.i.ents x.i.next with ⟨he,hrt⟩ | ⟨he,hrt⟩
        · have HE : Hid (Fo.err x.i.ents x.i.next = 0) := he
          by_cases hs:x.i.size = (x.en:Int)
          · have HY : Hid (∀ y ∈ L.take (k + 1), Sp.fold y.i) := HSUC.out fun _ => ⟨hrt, by rw [hs, HEN.out]⟩
            have hs1:(x.i.size != (x.en:Int)) = false:=by simp [hs]
            clear he hrt hs hkd
            go_wp2_with fail
            refine (isDir_any x _).mono ?_
            rintro e w2 ⟨rfl,hw2⟩
            rw [hk2]
            have hb2:Below (wr.alloc (BIx x)).heap.size (wr.alloc (BIx x)) w2:=by rw [hw2];exact (Below.refl _ _).alloc (Nat.le_refl _) _
            have HB2:Hid (Below w.heap.size w w2):=HB1.out.trans (hb2.mono HB1.out.size)
            have HG2:Hid (Good S w2 x):=HG.out.up hb2
            have HX2:Hid (w2.heap[wr.heap.size]? = some (BIx x)):=(hb2.block _ (by simp)).trans (heap_alloc_new wr (BIx x))
            clear hw2 hb2 q0 q1 q2 q3 q4 q5 q6 q7
            obtain ⟨⟨q0,q1,q2,q3,q4,q5,q6,q7⟩,-⟩:=eight_of HX2.out
            go_wp2_with fail
            refine (dirOf_any x _).mono ?_
            rintro e w3 ⟨rfl,hb3⟩
            have HB3:Hid (Below w.heap.size w w3):=HB2.out.trans (hb3.mono HB2.out.size)
            have HG3:Hid (Good S w3 x):=HG2.out.up hb3
            have HX3:Hid (w3.heap[wr.heap.size]? = some (BIx x)):=(hb3.block _ (Array.getElem?_eq_some_iff.1 HX2.out).1).trans HX2.out
            clear hb3 q0 q1 q2 q3 q4 q5 q6 q7
            go_wp2_with fail
            refine (fcheck_any _ x.i.ents x.i.next _ HG3.out.2.1.wide HSM.out).mono ?_
            rintro e w4 ⟨rfl,hb4⟩
            rw [HE.out]
            have HB4:Hid (Below w.heap.size w w4):=HB3.out.trans (hb4.mono HB3.out.size)
            obtain ⟨⟨q0,q1,q2,q3,q4,q5,q6,q7⟩,-⟩:=eight_of ((hb4.block _ (Array.getElem?_eq_some_iff.1 HX3.out).1).trans HX3.out)
            clear hb4
            go_wp2
            go_roundw
            case rel=>exact ⟨k + 1,by omega,by go_num,HY,HB4⟩
            case measure=>simp [intOf];omega
          · have H : Hid (r = false) := HBAD.out fun h => hs (by rw [(h hkd).2, HEN.out])
            have hs1:(x.i.size != (x.en:Int)) = true:=by simp [hs]
            clear he hrt hs hkd
            go_wp2_with fail
            refine (isDir_any x _).mono ?_
            rintro e w2 ⟨rfl,hw2⟩
            rw [hk2]
            have hb2:Below (wr.alloc (BIx x)).heap.size (wr.alloc (BIx x)) w2:=by rw [hw2];exact (Below.refl _ _).alloc (Nat.le_refl _) _
            have HB2:Hid (Below w.heap.size w w2):=HB1.out.trans (hb2.mono HB1.out.size)
            have HG2:Hid (Good S w2 x):=HG.out.up hb2
            have HX2:Hid (w2.heap[wr.heap.size]? = some (BIx x)):=(hb2.block _ (by simp)).trans (heap_alloc_new wr (BIx x))
            clear hw2 hb2 q0 q1 q2 q3 q4 q5 q6 q7
            obtain ⟨⟨q0,q1,q2,q3,q4,q5,q6,q7⟩,-⟩:=eight_of HX2.out
            go_wp2_with fail
            refine (dirOf_any x _).mono ?_
            rintro e w3 ⟨rfl,hb3⟩
            have HB3:Hid (Below w.heap.size w w3):=HB2.out.trans (hb3.mono HB2.out.size)
            have HG3:Hid (Good S w3 x):=HG2.out.up hb3
            have HX3:Hid (w3.heap[wr.heap.size]? = some (BIx x)):=(hb3.block _ (Array.getElem?_eq_some_iff.1 HX2.out).1).trans HX2.out
            clear hb3 q0 q1 q2 q3 q4 q5 q6 q7
            go_wp2_with fail
            refine (fcheck_any _ x.i.ents x.i.next _ HG3.out.2.1.wide HSM.out).mono ?_
            rintro e w4 ⟨rfl,hb4⟩
            rw [HE.out]
            have HB4:Hid (Below w.heap.size w w4):=HB3.out.trans (hb4.mono HB3.out.size)
            obtain ⟨⟨q0,q1,q2,q3,q4,q5,q6,q7⟩,-⟩:=eight_of ((hb4.block _ (Array.getElem?_eq_some_iff.1 HX3.out).1).trans HX3.out)
            clear hb4
            go_wp2
            go_ret
            rw [H.out]
            exact ⟨rfl,HB4.out⟩
        · have HE : Hid (Fo.err x.i.ents x.i.next = 4) := he
          have H:Hid (r = false):=HBAD.out fun h=>hrt (h hkd).1
          clear he hrt hkd
          go_wp2_with fail
          refine (isDir_any x _).mono ?_
          rintro e w2 ⟨rfl,hw2⟩
          rw [hk2]
          have hb2:Below (wr.alloc (BIx x)).heap.size (wr.alloc (BIx x)) w2:=by rw [hw2];exact (Below.refl _ _).alloc (Nat.le_refl _) _
          have HB2:Hid (Below w.heap.size w w2):=HB1.out.trans (hb2.mono HB1.out.size)
          have HG2:Hid (Good S w2 x):=HG.out.up hb2
          have HX2:Hid (w2.heap[wr.heap.size]? = some (BIx x)):=(hb2.block _ (by simp)).trans (heap_alloc_new wr (BIx x))
          clear hw2 hb2 q0 q1 q2 q3 q4 q5 q6 q7
          obtain ⟨⟨q0,q1,q2,q3,q4,q5,q6,q7⟩,-⟩:=eight_of HX2.out
          go_wp2_with fail
          refine (dirOf_any x _).mono ?_
          rintro e w3 ⟨rfl,hb3⟩
          have HB3:Hid (Below w.heap.size w w3):=HB2.out.trans (hb3.mono HB2.out.size)
          have HG3:Hid (Good S w3 x):=HG2.out.up hb3
          have HX3:Hid (w3.heap[wr.heap.size]? = some (BIx x)):=(hb3.block _ (Array.getElem?_eq_some_iff.1 HX2.out).1).trans HX2.out
          clear hb3 q0 q1 q2 q3 q4 q5 q6 q7
          go_wp2_with fail
          refine (fcheck_any _ x.i.ents x.i.next _ HG3.out.2.1.wide HSM.out).mono ?_
          rintro e w4 ⟨rfl,hb4⟩
          rw [HE.out]
          have HB4:Hid (Below w.heap.size w w4):=HB3.out.trans (hb4.mono HB3.out.size)
          obtain ⟨⟨q0,q1,q2,q3,q4,q5,q6,q7⟩,-⟩:=eight_of ((hb4.block _ (Array.getElem?_eq_some_iff.1 HX3.out).1).trans HX3.out)
          clear hb4
          go_wp2
          go_ret
          rw [H.out]
          exact ⟨rfl,HB4.out⟩
      · have hk2 : (x.i.kind == 2) = false := beq_eq_false_iff_ne.2 hkd
        have HY:Hid (∀ y∈L.take (k + 1),Sp.fold y.i):=HSUC.out fun h=>absurd h hkd
        clear hkd
        go_wp2_with fail
        refine (isDir_any x _).mono ?_
        rintro e w2 ⟨rfl,rfl⟩
        have HB2:Hid (Below w.heap.size w ((wr.alloc (BIx x)).alloc (BIx x))):=HB1.out.alloc HB1.out.size _
        rw [hk2]
        go_wp2
        go_roundw
        case rel=>exact ⟨k + 1,by omega,by go_num,HY,HB2⟩
        case measure=>simp [intOf];omega
    · obtain rfl : k = n := by omega
      have H:Hid (r = true):=by
        rw [← HR.out]
        refine Sp.foldsB_yes fun y hy=>?_
        obtain ⟨x,hx,rfl⟩:=List.mem_map.1 hy
        exact HP.out x (by rw [← HN.out,List.take_length];exact hx)
      go_wp2
      go_ret
      rw [H.out]
      exact ⟨rfl,HB.out⟩
end Go.Proofs.YtggoccfddnpelaaGreat
namespace Go.Proofs.YtggoccfddnpelaaGreat
open It
set_option maxRecDepth 100000
namespace Sp
/-- How many entries name a handle. -/
def cnt (L:List Ino) (h:Int × Int):Nat:=(allEnts L).countP (fun e=>e.2.2 == h)
theorem eat_val : ∀ (es : List En) (M M' : List ((Int × Int) × Int)), (M.map (·.1)).Nodup → eat M es = some M' → (M'.map (·.1)).Nodup ∧ ∀ h, mval M' h = mval M h - (es.countP (fun e => e.2.2 == h) : Nat)
  | [], M, M', hn, h => by
    cases h
    exact ⟨hn,fun h=>by simp⟩
  | e :: es, M, M', hn, h => by
    rw [eat_cons] at h
    split at h
    · cases h
    · obtain ⟨h1, h2⟩ := eat_val es _ M' (mset_keys hn _ _).1 h
      refine ⟨h1,fun g=>?_⟩
      rw [h2 g,mval_set hn,List.countP_cons]
      by_cases hg:g = e.2.2
      · subst hg
        simp
        omega
      · rw [if_neg hg]
        have:(e.2.2 == g) = false:=beq_eq_false_iff_ne.2 (Ne.symm hg)
        simp [this]
theorem eat_some:∀ (es:List En) (M:List ((Int × Int) × Int)),(M.map (·.1)).Nodup->(∀ h,(es.countP (fun e=>e.2.2 == h):Int)<=mval M h)->∃ M',eat M es = some M'
  | [],M,_,_=>⟨M,rfl⟩
  | e :: es, M, hn, h => by
    rw [eat_cons]
    have h0:=h e.2.2
    rw [List.countP_cons] at h0
    simp at h0
    rw [if_neg (by omega)]
    refine eat_some es _ (mset_keys hn _ _).1 fun g=>?_
    have hg:=h g
    rw [List.countP_cons] at hg
    rw [mval_set hn]
    by_cases hge:g = e.2.2
    · subst hge
      simp at hg ⊢
      omega
    · rw [if_neg hge]
      have:(e.2.2 == g) = false:=beq_eq_false_iff_ne.2 (Ne.symm hge)
      simp [this] at hg
      exact hg
theorem startK_small {L:List Ino} (h:It.right L = true):∀ k,Small (startK L k):=by
  intro k
  unfold startK
  have key:∀ (l:List (Int × Int)) (M:List ((Int × Int) × Int)),Small M->(∀ g∈l,0<=lkOf L g.1/\lkOf L g.1<=64)->Small (l.foldl (fun M h=>mset M h (lkOf L h.1)) M):=by
    intro l
    induction l with
    | nil=>intro M hM _;exact hM
    | cons g l ih =>
      intro M hM hb
      exact ih _ (hM.set g (hb g (by simp)).1 (hb g (by simp)).2) fun x hx=>hb x (List.mem_cons_of_mem _ hx)
  refine key _ _ Small.nil fun g hg=>?_
  obtain ⟨i,x,hx,hno,-,-⟩:=names_iff.1 (mem_used.1 (List.mem_of_mem_take hg))
  have hone:=(It.right_iff.1 h).2.2 x (List.mem_of_getElem? hx)
  unfold lkOf
  rw [hno,show ((i:Int)).toNat = i by omega,hx,Option.getD_some]
  unfold one at hone
  simp only [Bool.and_eq_true] at hone
  rcases At.right_iff.1 hone.2.1 with ⟨_,h1,_⟩ | ⟨_,_,⟨_,h1⟩ | ⟨_,h1⟩⟩ <;> omega
theorem fold_val {f:Int->Int}:∀ (l:List (Int × Int)) (M:List ((Int × Int) × Int)),(M.map (·.1)).Nodup->∀ g,mval (l.foldl (fun M h=>mset M h (f h.1)) M) g = if g∈l then f g.1 else mval M g
  | [],M,_,g=>by simp
  | h :: l, M, hn, g => by
    rw [List.foldl_cons,fold_val l _ (mset_keys hn _ _).1 g,mval_set hn]
    by_cases h1:g∈l
    · rw [if_pos h1,if_pos (List.mem_cons_of_mem _ h1)]
    · rw [if_neg h1]
      by_cases h2:g = h
      · rw [if_pos h2,if_pos (by rw [h2];simp),h2]
      · rw [if_neg h2,if_neg (fun hm=>by rcases List.mem_cons.1 hm with h3 | h3;exact h2 h3;exact h1 h3)]
theorem start_nodup {L:List Ino} (h:It.right L = true):((start L).map (·.1)).Nodup:=(mset_keys (startK_small h _).1 _ _).1
theorem start_val {L:List Ino} (h:It.right L = true) (g:Int × Int):mval (start L) g = if g = (0,gen0 L) then 0 else if names L g.1 g.2 = true then lkOf L g.1 else 0:=by
  unfold start
  rw [mval_set (startK_small h _).1]
  by_cases h1:g = (0,gen0 L)
  · rw [if_pos h1,if_pos h1]
  · rw [if_neg h1, if_neg h1]
    unfold startK
    rw [List.take_length,fold_val (f:=lkOf L) _ _ (by simp)]
    have hm:g∈used L ↔ names L g.1 g.2 = true:=mem_used (L:=L) (no:=g.1) (gen:=g.2)
    by_cases h2:names L g.1 g.2 = true
    · rw [if_pos (hm.2 h2),if_pos h2]
    · rw [if_neg (fun h3 => h2 (hm.1 h3)), if_neg h2]
      rfl
/-- Links are counted, just where each handle has as many names as it should. -/
theorem cntB_iff {L : List Ino} (h : It.right L = true) : cntB L = true ↔ ∀ g, (cnt L g : Int) = mval (start L) g := by
  have hn:=start_nodup h
  constructor
  · intro hc g
    unfold cntB at hc
    cases he:eat (start L) (allEnts L) with
    | none=>rw [he] at hc;cases hc
    | some M =>
      rw [he] at hc
      obtain ⟨h1,h2⟩:=eat_val _ _ M hn he
      have h3:=h2 g
      have h4:mval M g = 0:=by
        by_cases hm:∃ u,(g,u)∈M
        · obtain ⟨u, hu⟩ := hm
          rw [mval_mem h1 (p:=(g,u)) hu]
          have:=List.all_eq_true.1 hc _ hu
          simpa using this
        · exact mval_out (fun p hp ep=>hm ⟨p.2,by rw [← ep];exact hp⟩)
      unfold cnt
      omega
  · intro hc
    obtain ⟨M,he⟩:=eat_some (allEnts L) (start L) hn (fun g=>by have:=hc g;unfold cnt at this;omega)
    obtain ⟨h1,h2⟩:=eat_val _ _ M hn he
    unfold cntB
    rw [he]
    refine List.all_eq_true.2 fun p hp=>?_
    have h3:=h2 p.1
    have h4:=hc p.1
    unfold cnt at h4
    rw [mval_mem h1 hp] at h3
    simp
    omega
theorem mem_all {L:List Ino} {p:Nat} {e:En} (h:e∈entsAt L p):e∈allEnts L:=by
  unfold entsAt at h
  split at h
  · rename_i x hx
    exact List.mem_flatMap.2 ⟨x,List.mem_of_getElem? hx,h⟩
  · cases h
theorem all_mem {L:List Ino} {e:En} (h:e∈allEnts L):∃ (p:Nat) (x:Ino),L[p]? = some x/\e∈x.ents:=by
  obtain ⟨x,hx,he⟩:=List.mem_flatMap.1 h
  obtain ⟨p,hp⟩:=List.mem_iff_getElem?.1 hx
  exact ⟨p,x,hp,he⟩
/-- An entry stands in a folder. -/
theorem ents_dir {L:List Ino} (h:It.right L = true) {p:Nat} {x:Ino} (hx:L[p]? = some x) {e:En} (he:e∈x.ents):x.kind = 2:=by
  have hone:=(It.right_iff.1 h).2.2 x (List.mem_of_getElem? hx)
  unfold one at hone
  simp only [Bool.and_eq_true] at hone
  by_cases hk:x.kind = 2
  · exact hk
  · have h2 := hone.2.2
    rw [if_neg hk] at h2
    split at h2
    · simp only [Bool.and_eq_true, List.isEmpty_iff] at h2
      rw [h2.1.1.1] at he
      cases he
    · simp only [Bool.and_eq_true, List.isEmpty_iff] at h2
      rw [h2.1.1] at he
      cases he
theorem dir_links {L:List Ino} (h:It.right L = true) {p:Nat} {x:Ino} (hx:L[p]? = some x) (hk:x.kind = 2):x.links = 1:=by
  have hone:=(It.right_iff.1 h).2.2 x (List.mem_of_getElem? hx)
  unfold one at hone
  simp only [Bool.and_eq_true] at hone
  rcases At.right_iff.1 hone.2.1 with ⟨h1,_⟩ | ⟨_,_,⟨h1,_⟩ | ⟨_,h1⟩⟩
  · omega
  · omega
  · exact h1
/-- Each entry names an inode that is not the root. -/
theorem ent_named {L:List Ino} (h:It.right L = true) (hc:cntB L = true) {e:En} (he:e∈allEnts L):names L e.2.2.1 e.2.2.2 = true/\e.2.2.1≠0/\1<=lkOf L e.2.2.1:=by
  have h1:=(cntB_iff h).1 hc e.2.2
  have h2:0 < cnt L e.2.2:=List.countP_pos_iff.2 ⟨e,he,by simp⟩
  rw [start_val h] at h1
  by_cases h3:e.2.2 = (0,gen0 L)
  · rw [if_pos h3] at h1
    omega
  · rw [if_neg h3] at h1
    by_cases h4:names L e.2.2.1 e.2.2.2 = true
    · rw [if_pos h4] at h1
      refine ⟨h4,fun h5=>h3 ?_,by omega⟩
      obtain ⟨i,x,hx,hno,hg,_⟩:=names_iff.1 h4
      have hi:i = 0:=by omega
      subst hi
      unfold gen0
      rw [hx,Option.getD_some,hg,← h5]
    · rw [if_neg h4] at h1
      omega
theorem tree_of {L : List Ino} (h : It.right L = true) (hf : folds L) (hc : cntB L = true) : Tree L := by
  refine ⟨fun p e he=>?_,fun c hd=>?_,?_⟩
  · obtain ⟨h1, h2, _⟩ := ent_named h hc (mem_all he)
    obtain ⟨i,x,hx,hno,_,_⟩:=names_iff.1 h1
    have hi:=(List.getElem?_eq_some_iff.1 hx).1
    refine ⟨by omega,by omega,?_,h2⟩
    obtain ⟨q,y,hy,hey⟩:=all_mem (mem_all he)
    obtain ⟨⟨_,hpre,_⟩,_⟩:=hf y (List.mem_of_getElem? hy) (ents_dir h hy hey)
    obtain ⟨j,hj⟩:=List.mem_iff_getElem?.1 hey
    exact (hpre j (List.getElem?_eq_some_iff.1 hj).1 e hj).1.2.1
  · have hcl := dirAt_lt hd
    have hx:L[c]? = some L[c]:=List.getElem?_eq_getElem hcl
    have hk:L[c].kind = 2:=by
      unfold dirAt at hd
      rw [hx] at hd
      simpa using hd
    have e1:(allEnts L).countP (toNo c) = cnt L ((c:Int),L[c].gen):=by
      unfold cnt
      refine List.countP_congr fun e he=>?_
      obtain ⟨h1,_,_⟩:=ent_named h hc he
      obtain ⟨i,x,hxi,hno,hg,_⟩:=names_iff.1 h1
      simp only [toNo,beq_iff_eq]
      constructor
      · intro h2
        have:i = c:=by omega
        subst this
        rw [hx] at hxi
        cases hxi
        exact Prod.ext h2 hg.symm
      · intro h2
        rw [h2]
    have h1:=(cntB_iff h).1 hc ((c:Int),L[c].gen)
    rw [e1]
    rw [start_val h] at h1
    have hl:lkOf L (c:Int) = 1:=by
      unfold lkOf
      rw [show ((c:Int)).toNat = c by omega,hx,Option.getD_some]
      exact dir_links h hx hk
    simp only [hl] at h1
    split at h1
    · omega
    · split at h1 <;> omega
  · have hr := (It.right_iff.1 h).2.1
    unfold rootB at hr
    cases L with
    | nil=>cases hr
    | cons x l =>
      simp at hr
      simp [dirAt,hr]
theorem right_len {L:List Ino} (h:It.right L = true):1<=L.length/\L.length<=24:=(It.right_iff.1 h).1
theorem count_dirs (L : List Ino) : L.countP (fun x => x.kind == 2) = (dirs L).length := by
  unfold dirs
  rw [List.countP_eq_length_filter]
  have key:∀ (l:List Ino),((List.range l.length).filter (dirAt l)).length = (l.filter (fun x=>x.kind == 2)).length:=by
    intro l
    have e:(List.range l.length).map (fun i=>l[i]?.getD zeroI) = l:=by
      refine List.ext_getElem? fun i=>?_
      rw [List.getElem?_map]
      by_cases hi:i < l.length
      · rw [List.getElem?_range hi]
        simp [List.getElem?_eq_getElem hi]
      · rw [List.getElem?_eq_none (by simpa using hi), List.getElem?_eq_none (by omega)]
        rfl
    conv=>rhs;rw [← e]
    rw [List.filter_map,List.length_map]
    congr 1
    refine List.filter_congr fun i hi=>?_
    have:=List.mem_range.1 hi
    simp [dirAt,List.getElem?_eq_getElem this]
  exact (key L).symm
/-- All folders are below the root. -/
def reachB (L:List Ino):Bool:=(((walk L 24 0 ⟨#[]⟩).length:Int) - (L.countP (fun x=>x.kind == 2):Nat)) == 0
theorem reachB_iff {L:List Ino} (ht:Tree L) (hL:L.length<=24):reachB L = true ↔ ∀ c,dirAt L c = true->∃ d,Anc L d 0 c:=by
  unfold reachB
  rw [← walk_all ht hL ⟨#[]⟩,count_dirs]
  simp
  omega
/-- A table is a space. -/
noncomputable def isSp (L:List Ino):Bool:=It.right L && (foldsB L && (cntB L && reachB L))
open Classical in
theorem foldsB_iff {L:List Ino}:foldsB L = true ↔ folds L:=by
  unfold foldsB
  exact decide_eq_true_iff
theorem isSp_iff {L:List Ino}:isSp L = true ↔ It.right L = true/\folds L/\cntB L = true/\reachB L = true:=by
  unfold isSp
  simp only [Bool.and_eq_true,foldsB_iff]
end Sp
end Go.Proofs.YtggoccfddnpelaaGreat
