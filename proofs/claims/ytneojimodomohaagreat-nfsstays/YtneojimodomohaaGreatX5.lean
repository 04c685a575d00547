/- OPlainB, Sb, Sc, Sd, Se, as one. -/
import Derived.Test.YtneojimodomohaaGreatX4
set_option maxHeartbeats 8000000
set_option maxRecDepth 100000
namespace Go.Proofs.YtneojimodomohaaGreat.Os
namespace Op
theorem right_iff : ∀ (l : List Opn) (t : Int), right t l = true ↔ (∀ x ∈ l, good t x) ∧ l.Pairwise (fun a b => a.1 < b.1)
  | [],t=>by simp [right]
  | x :: r, t => by
    rw [right,Bool.and_eq_true,decide_eq_true_iff,right_iff r,List.pairwise_cons];constructor
    · rintro ⟨h1, h2, h3⟩
      refine ⟨fun y hy=>?_,fun y hy=>?_,h3⟩
      · rcases List.mem_cons.1 hy with rfl | hy
        · exact h1
        · have := h2 y hy
          exact ⟨⟨by have:=this.1.1;have:=h1.1.1;omega,this.1.2⟩,this.2⟩
      · have := (h2 y hy).1.1
        omega
    · rintro ⟨h1, h2, h3⟩
      refine ⟨h1 x (by simp),fun y hy=>?_,h3⟩;have:=h1 y (by simp [hy]);have:=h2 y hy;exact ⟨⟨by omega,(h1 y (by simp [hy])).1.2⟩,(h1 y (by simp [hy])).2⟩
theorem low_mem {l:List Opn} {y:Opn} (hy:y∈l.take (least 0 l)):y.1 < (least 0 l:Int):=by
  obtain ⟨j,hj⟩:=List.mem_iff_getElem?.1 hy;have hjL:j < least 0 l:=by have:=(List.getElem?_eq_some_iff.1 hj).1;simp at this;omega
  rw [List.getElem?_take_of_lt hjL] at hj;have:=low_fd hjL hj;omega
theorem high_mem {l:List Opn} (hr:right 0 l = true) {y:Opn} (hy:y∈l.drop (least 0 l)):(least 0 l:Int) < y.1:=by
  obtain ⟨j,hj⟩:=List.mem_iff_getElem?.1 hy;rw [List.getElem?_drop] at hj;exact least_high hr (by omega) hj
section
variable {l:List Opn} {c no gen:Int} (he:openErr l c no gen = 0)
include he
theorem op_facts:ask l c = 0/\right 0 l = true/\Cl c/\Ho no gen/\l.length < 16/\opened l c no gen = l.take (least 0 l) ++ [((least 0 l:Int),c,no,gen)] ++ l.drop (least 0 l)/\openFd l c no gen = (least 0 l:Int):=by
  rcases open_or l c no gen with ⟨_,ha,hr,hc,ho,hl⟩ | ⟨h,ha⟩ | ⟨h,_,_⟩ | ⟨h,_,_,_,_⟩
  · exact ⟨ha,hr,hc,ho,hl,if_pos he,if_pos he⟩
  · rw [he] at h
    exact absurd h.symm ha
  · rw [he] at h
    cases h
  · rw [he] at h
    cases h
theorem op_right : right 0 (opened l c no gen) = true := by
  obtain ⟨-,hr,hc,ho,hl,hp,-⟩:=op_facts he;have hlt:=least_in l;rw [hp,right_iff];obtain ⟨h1,h2⟩:=(right_iff l 0).1 hr;have hpw:(l.take (least 0 l) ++ l.drop (least 0 l)).Pairwise (fun a b:Opn=>a.1 < b.1):=by rw [List.take_append_drop];exact h2
  obtain ⟨p1,p2,p3⟩:=List.pairwise_append.1 hpw;refine ⟨fun x hx=>?_,?_⟩
  · simp only [List.mem_append, List.mem_singleton] at hx
    rcases hx with (hx | rfl) | hx
    · exact h1 x (List.mem_of_mem_take hx)
    · exact ⟨⟨by simp,by simp;omega⟩,hc,ho⟩
    · exact h1 x (List.mem_of_mem_drop hx)
  · rw [List.pairwise_append, List.pairwise_append]
    refine ⟨⟨p1,by simp,fun a ha b hb=>?_⟩,p2,fun a ha b hb=>?_⟩
    · simp at hb
      subst hb;exact low_mem ha
    · rcases List.mem_append.1 ha with ha | ha
      · exact p3 a ha b hb
      · simp at ha
        subst ha;exact high_mem hr hb
end
end Op
end Go.Proofs.YtneojimodomohaaGreat.Os
namespace Go.Proofs.YtneojimodomohaaGreat
open It Go.RowKit
namespace Nf
theorem wrap_id {x:Int} (h:0<=x/\x<=9223372036854775807):wrap64 x = x:=by
 unfold wrap64;omega
theorem br:∀ (l:List (Int × ByteArray)) (a:Int),Bs.Bl.right a l ↔ Bl.right a l
 | [],_=>Iff.rfl
 | _ :: l,_=>and_congr Iff.rfl (br l _)
theorem ble:∀ (l:List (Int × ByteArray)) (a:Int),Bs.Bl.lastEnd a l = Bl.lastEnd a l
 | [],_=>rfl
 | _ :: l,_=>ble l _
theorem bend (l:List (Int × ByteArray)):Bs.Bl.endOf l = Bl.endOf l:=by
 unfold Bs.Bl.endOf Bl.endOf
 by_cases h:Bl.right (-1) l
 ·rw [if_pos h,if_pos ((br l _).2 h),ble]
 ·rw [if_neg h,if_neg (fun h2=>h ((br l _).1 h2))]
abbrev tot (l:List (Int × ByteArray)):Nat:=Bs.Bl.total l
theorem tot_le {l:List (Int × ByteArray)} (h:Bl.right (-1) l):(tot l:Int)<=1048577:=by
 have:(tot l:Int) + l.length<=_:=Bs.Bl.right_total ((br l _).2 h) (by decide);have e:Bs.Bl.MAX = 1048576:=rfl;omega
theorem sumw_go:∀ (l:List (Int × ByteArray)) (y:Int),0<=y->y + (tot l:Int)<=9223372036854775807->l.foldl (fun y r=>wrap64 (y + (r.2.size:Int))) y = y + (tot l:Int)
 | [],y,_,_=>by simp [Bs.Bl.total]
 | r :: l,y,h0,h=>by
  have e:tot (r :: l) = r.2.size + tot l:=by simp [Bs.Bl.total]
  rw [e] at h ⊢;rw [List.foldl_cons,wrap_id (by omega),sumw_go l _ (by omega) (by omega)];omega
theorem sumw_tot {l:List (Int × ByteArray)} (h:Bl.right (-1) l):Bl.sumw l = (tot l:Int):=by
 have:=tot_le h;unfold Bl.sumw;rw [sumw_go l 0 (by omega) (by omega)];omega
theorem runs_right {x:Ino} (h:one x = true):Bl.right (-1) x.runs:=by
 unfold one at h;simp only [Bool.and_eq_true] at h;have h3:=h.2.2;split at h3
 ·rw [List.isEmpty_iff.1 h3];trivial
 ·split at h3
  ·simp only [Bool.and_eq_true,decide_eq_true_eq] at h3;exact h3.1.2
  ·simp only [Bool.and_eq_true] at h3;rw [List.isEmpty_iff.1 h3.2];trivial
theorem runs_nil {x:Ino} (h:one x = true) (hk:x.kind≠1):x.runs = []:=by
 unfold one at h;simp only [Bool.and_eq_true] at h;have h3:=h.2.2;split at h3
 ·exact List.isEmpty_iff.1 h3
 ·simp only [Bool.and_eq_true] at h3;exact List.isEmpty_iff.1 h3.2
def By (L:List Ino):Nat:=(L.map fun x=>tot x.runs).sum
theorem By_cons (x:Ino) (L:List Ino):By (x :: L) = tot x.runs + By L:=by simp [By]
theorem all_go:∀ (L:List Ino) (y:Int),(∀ x∈L,Bl.right (-1) x.runs)->0<=y->y + L.length * 1048577<=9223372036854775807->L.foldl (fun y x=>wrap64 (y + Bl.sumw x.runs)) y = y + (By L:Int)
 | [],y,_,_,_=>by simp [By]
 | x :: L,y,hx,h0,h=>by
  have h1:=hx x (by simp);have h2:=tot_le h1;rw [List.length_cons] at h;rw [List.foldl_cons,sumw_tot h1,wrap_id (by omega),all_go L _ (fun z hz=>hx z (by simp [hz])) (by omega) (by omega),By_cons];omega
theorem all_by {L:List Ino} (h:It.right L = true):allBytes L = (By L:Int):=by
 obtain ⟨h1,_,h3⟩:=It.right_iff.1 h;unfold allBytes;rw [all_go L 0 (fun x hx=>runs_right (h3 x hx)) (by omega) (by omega)];omega
theorem By_set:∀ (L:List Ino) (k:Nat) (x y:Ino),L[k]? = some x->By (L.set k y) + tot x.runs = By L + tot y.runs
 | [],k,x,y,h=>by simp at h
 | z :: L,0,x,y,h=>by
  simp at h;subst h;rw [List.set_cons_zero,By_cons,By_cons];omega
 | z :: L,k + 1,x,y,h=>by
  have ih:=By_set L k x y (by simpa using h);rw [List.set_cons_succ,By_cons,By_cons];omega
theorem By_same:∀ (L L':List Ino),L.length<=L'.length->(∀ (i:Nat) (x':Ino),L'[i]? = some x'->(∃ x,L[i]? = some x/\tot x'.runs = tot x.runs)∨(L.length<=i/\tot x'.runs = 0))->By L' = By L
 | [],[],_,_=>rfl
 | [], y :: L', _, h => by
  rw [By_cons,By_same [] L' (by simp) (fun i x' hx=>by
   rcases h (i + 1) x' (by simpa using hx) with ⟨x,hx,_⟩ | h
   ·simp at hx
   ·exact .inr ⟨by simp,h.2⟩)]
  rcases h 0 y rfl with ⟨x,hx,_⟩ | h
  ·simp at hx
  ·rw [h.2];simp [By]
 | x :: L,[],h,_=>by simp at h
 | x :: L, y :: L', hl, h => by
  rw [By_cons,By_cons,By_same L L' (by simpa using hl) (fun i x' hx=>by
   rcases h (i + 1) x' (by simpa using hx) with h | h
   ·left;simpa using h
   ·right;simpa using h)]
  rcases h 0 y rfl with ⟨z,hz,e⟩ | h
  ·simp at hz;subst hz;rw [e]
  ·simp at h
def Hl (O:List Os.Opn) (no gen:Int):Prop:=∃ o∈O,o.2.2.1 = no/\o.2.2.2 = gen
theorem held_pos {O:List Os.Opn} {no gen:Int}:0 < Os.Op.held O no gen ↔ Hl O no gen:=by
 unfold Os.Op.held Hl;rw [List.countP_pos_iff];simp
def Fl (L:List Ino) (O:List Os.Opn):Prop:=(∀ o∈O,∃ (i:Nat) (x:Ino),L[i]? = some x/\o.2.2.1 = (i:Int)/\x.gen = o.2.2.2/\x.kind = 1)
def Nd (L:List Ino) (O:List Os.Opn) (q:Nat->Prop):Prop:=∀ (i:Nat) (x:Ino),L[i]? = some x->x.kind = 1->x.links<=0->¬ q i->Hl O i x.gen
theorem mem_files {L:List Ino} {no gen:Int}:(no,gen)∈files L ↔ ∃ (i:Nat) (x:Ino),L[i]? = some x/\no = (i:Int)/\x.gen = gen/\x.kind = 1:=by
 unfold files;rw [List.mem_filter,mem_used,names_iff];constructor
 ·rintro ⟨⟨i,x,hx,rfl,hg,hk⟩,h2⟩;unfold fileAt at h2;rw [show ((i:Int),gen).1.toNat = i from by show ((i:Int)).toNat = i;omega,hx] at h2;exact ⟨i,x,hx,rfl,hg,by simpa using h2⟩
 ·rintro ⟨i,x,hx,rfl,hg,hk⟩;refine ⟨⟨i,x,hx,rfl,hg,by omega⟩,?_⟩;unfold fileAt;rw [show ((i:Int),gen).1.toNat = i from by show ((i:Int)).toNat = i;omega,hx];simpa using hk
theorem need_iff {L:List Ino} {O:List Os.Opn} {i:Nat} {x:Ino} (hx:L[i]? = some x):needB L O ((i:Int),x.gen) = true ↔ 0 < x.links∨Hl O i x.gen:=by
 unfold needB linksAt;rw [show ((i:Int),x.gen).1.toNat = i from by show ((i:Int)).toNat = i;omega,hx];simp only [Bool.or_eq_true,decide_eq_true_eq];refine or_congr Iff.rfl ?_;rw [← held_pos];omega
theorem filesOk_iff {L:List Ino} {O:List Os.Opn}:filesOk L O = true ↔ Fl L O/\Nd L O (fun _=>False):=by
 unfold filesOk;rw [Bool.and_eq_true];refine and_congr ?_ ?_
 ·rw [Bool.not_eq_true',List.any_eq_false];refine forall_congr' fun o=>forall_congr' fun ho=>?_
  simp only [Bool.not_eq_true',decide_eq_false_iff_not,Classical.not_not];rw [mem_files]
 ·rw [Bool.not_eq_true',List.any_eq_false];constructor
  ·intro h i x hx hk hl _;have h1:=h ((i:Int),x.gen) (mem_files.2 ⟨i,x,hx,rfl,rfl,hk⟩);simp only [Bool.not_eq_true',Bool.not_eq_false] at h1;rcases (need_iff hx).1 h1 with h2 | h2
   ·omega
   ·exact h2
  ·intro h p hp;obtain ⟨no,gen⟩:=p;obtain ⟨i,x,hx,rfl,rfl,hk⟩:=mem_files.1 hp;simp only [Bool.not_eq_true',Bool.not_eq_false];refine (need_iff hx).2 ?_
   by_cases hl:0 < x.links
   ·exact .inl hl
   ·exact .inr (h i x hx hk (by omega) id)
theorem doneOk_iff {L:List Ino} {dn:Int}:doneOk L dn = true ↔ (0<=dn/\dn<=1099511627776)/\∀ x∈L,x.stamp<=dn:=by
 unfold doneOk;rw [Bool.and_eq_true,decide_eq_true_iff,Bool.not_eq_true',List.any_eq_false];simp only [decide_eq_true_eq,Int.not_lt]
structure RX (L:List Ino) (O:List Os.Opn) (dn:Int) (q:Nat->Prop):Prop where
 sp:Sp.isSp L = true
 os:Os.Op.right 0 O = true
 fl:Fl L O
 nd:Nd L O q
 by8:By L<=8192
 dn:(0<=dn/\dn<=1099511627776)/\∀ x∈L,x.stamp<=dn
theorem right_rx {L:List Ino} {O:List Os.Opn} {dn:Int}:right L O dn = true ↔ RX L O dn (fun _=>False):=by
 constructor
 ·intro h;obtain ⟨h1,h2,h3,h4,h5⟩:=right_open h;rw [all_by (Sp.isSp_iff.1 h1).1] at h4;exact ⟨h1,h2,(filesOk_iff.1 h3).1,(filesOk_iff.1 h3).2,by omega,doneOk_iff.1 h5⟩
 ·intro h;unfold right;simp only [Bool.and_eq_true,decide_eq_true_eq];refine ⟨h.sp,h.os,filesOk_iff.2 ⟨h.fl,h.nd⟩,?_,doneOk_iff.2 h.dn⟩;rw [all_by (Sp.isSp_iff.1 h.sp).1];have:=h.by8;omega
end Nf
namespace Nf
def Kin (st:Int) (q:Prop) (P:Ent->Prop) (x x':Ino):Prop :=
 (x'.gen = x.gen/\x'.kind = x.kind/\x'.runs = x.runs/\(x.kind = 1->x'.size = x.size)/\(x'.stamp = x.stamp∨x'.stamp = st)/\(x.links<=x'.links∨q)/\∀ e∈x.ents,e∈x'.ents∨P e)∨(x.kind = 2/\x.ents = []/\x' = gone x.gen)∨(x.kind = 0/\∃ g k,x' = fresh g k st)
theorem kin_self {st:Int} {q:Prop} {P:Ent->Prop} (x:Ino):Kin st q P x x:=.inl ⟨rfl,rfl,rfl,fun _=>rfl,.inl rfl,.inl (Int.le_refl _),fun _ h=>.inl h⟩
structure Chg (L L':List Ino) (st:Int) (kt:Nat) (P:Ent->Prop):Prop where
 sp:Sp.isSp L' = true
 len:L.length<=L'.length
 old:∀ (i:Nat) (x:Ino),L[i]? = some x->∃ x',L'[i]? = some x'/\Kin st (i = kt) P x x'
 new:∀ (i:Nat) (x':Ino),L.length<=i->L'[i]? = some x'->∃ g k,x' = fresh g k st
theorem Chg.back {L L':List Ino} {st:Int} {kt:Nat} {P:Ent->Prop} (c:Chg L L' st kt P) {i:Nat} {x':Ino} (h:L'[i]? = some x'):(∃ x,L[i]? = some x/\Kin st (i = kt) P x x')∨(L.length<=i/\∃ g k,x' = fresh g k st):=by
 by_cases hi:L.length<=i
 ·exact .inr ⟨hi,c.new i x' hi h⟩
 ·left;have hx:L[i]? = some L[i]:=List.getElem?_eq_getElem (by omega);obtain ⟨y,hy,hk⟩:=c.old i _ hx;rw [h] at hy
  cases hy
  exact ⟨_,hx,hk⟩
theorem rx_chg {L L':List Ino} {O:List Os.Opn} {dn:Int} {kt:Nat} {P:Ent->Prop} (h:RX L O dn (fun _=>False)) (hd:dn + 1<=1099511627776) (c:Chg L L' (dn + 1) kt P):RX L' O (dn + 1) (fun i=>i = kt):=by
 have hr:=(Sp.isSp_iff.1 h.sp).1;have hone:=(It.right_iff.1 hr).2.2;refine ⟨c.sp,h.os,fun o ho=>?_,fun i x' hx' hk hl hq=>?_,?_,⟨by have:=h.dn.1;omega,by have:=h.dn.1;omega⟩,fun x' hx'=>?_⟩
 ·obtain ⟨i,x,hx,hno,hg,hk⟩:=h.fl o ho;obtain ⟨x',hx',hk'⟩:=c.old i x hx;rcases hk' with ⟨h1,h2,_⟩ | ⟨h1,_⟩ | ⟨h1,_⟩
  ·exact ⟨i,x',hx',hno,by omega,by omega⟩
  ·omega
  ·omega
 ·rcases c.back hx' with ⟨x,hx,⟨h1,h2,_,_,_,h6,_⟩ | ⟨h1,_,h2⟩ | ⟨h1,g,k,h2⟩⟩ | ⟨hi,g,k,h2⟩
  ·rcases h6 with h6 | h6
   ·rw [h1];exact h.nd i x hx (by omega) (by omega) id
   ·exact absurd h6 hq
  ·rw [h2] at hk;exact absurd (show (0:Int) = 1 from hk) (by decide)
  ·rw [h2] at hl;exact absurd (show (1:Int)<=0 from hl) (by decide)
  ·rw [h2] at hl;exact absurd (show (1:Int)<=0 from hl) (by decide)
 ·rw [By_same L L' c.len fun i x' hx'=>?_]
  ·exact h.by8
  ·rcases c.back hx' with ⟨x,hx,⟨h1,h2,h3,_⟩ | ⟨h1,_,h2⟩ | ⟨h1,g,k,h2⟩⟩ | ⟨hi,g,k,h2⟩
   ·exact .inl ⟨x,hx,by rw [h3]⟩
   ·exact .inl ⟨x,hx,by rw [runs_nil (hone x (List.mem_of_getElem? hx)) (by omega),h2];rfl⟩
   ·exact .inl ⟨x,hx,by rw [runs_nil (hone x (List.mem_of_getElem? hx)) (by omega),h2];rfl⟩
   ·exact .inr ⟨hi,by rw [h2];rfl⟩
 ·obtain ⟨i,hi⟩:=List.mem_iff_getElem?.1 hx';have h0:=h.dn.1;rcases c.back hi with ⟨x,hx,⟨_,_,_,_,h5,_⟩ | ⟨h1,_,h2⟩ | ⟨h1,g,k,h2⟩⟩ | ⟨hi,g,k,h2⟩
  ·have:=h.dn.2 x (List.mem_of_getElem? hx);omega
  ·rw [h2];show (0:Int)<=dn + 1;omega
  ·rw [h2];exact Int.le_refl _
  ·rw [h2];exact Int.le_refl _
theorem get_one {L:List Ino} {k:Nat} {x y:Ino} (hx:L[k]? = some x) (i:Nat):(L.set k y)[i]? = if i = k then some y else L[i]?:=by
 have hl:=(qM hx);rw [List.getElem?_set]
 by_cases h:i = k
 ·subst h;simp [hl]
 ·rw [if_neg (fun e=>h e.symm),if_neg h]
theorem ents_file {x:Ino} (h:one x = true) (hk:x.kind≠2):x.ents = []:=by
 unfold one at h;simp only [Bool.and_eq_true] at h;have h3:=h.2.2;rw [if_neg hk] at h3;split at h3
 all_goals
  simp only [Bool.and_eq_true] at h3
  first | exact List.isEmpty_iff.1 h3.1.1.1 | exact List.isEmpty_iff.1 h3.1.1
theorem sp_set {L:List Ino} {k:Nat} {x y:Ino} (hs:Sp.isSp L = true) (hx:L[k]? = some x) (hk:x.kind = 1) (hr:It.right (L.set k y) = true) (he:y.ents = []) (hy:(y.kind = 1/\y.gen = x.gen/\y.links = x.links)∨(y.kind = 0/\x.links = 0)):Sp.isSp (L.set k y) = true:=by
 have h1:=(Sp.isSp_iff.1 hs).1;have ho:=Sp.isSp_ok hs;have hxe:x.ents = []:=ents_file ((It.right_iff.1 h1).2.2 x (List.mem_of_getElem? hx)) (by omega);have hg:=get_one (y:=y) hx;have hk0:k≠0:=by
  rintro rfl;have:=Sp.root_kind h1 hx;omega
 have hn:∀ i:Int,Sp.nmv (L.set k y) i = Sp.nmv L i:=by
  intro i;have c1:=Sp.cset (Sp.toI i) L k x y hx;rw [he,hxe] at c1;unfold Sp.nmv;omega
 have hall:∀ e∈Sp.allEnts L,names L e.2.2.1 e.2.2.2 = true:=Sp.ok_named h1 ho;have hnm:∀ e∈Sp.allEnts L,names (L.set k y) e.2.2.1 e.2.2.2 = true:=fun e he=>Sp.names_to (hall e he) fun j z hz hej hkz=>by
  rw [hg]
  by_cases hj:j = k
  ·subst hj;rw [hx] at hz
   cases hz
   rw [if_pos rfl];rcases hy with h | h
   ·exact ⟨y,rfl,h.2.1,by omega⟩
   ·exfalso;have h2:=(ho j x hx).2.2.1 hk;have h3:(Sp.allEnts L).countP (Sp.toI j) = 0:=by
     unfold Sp.nmv at h2;omega
    exact List.countP_eq_zero.1 h3 e he (by simp [Sp.toI,hej])
  ·rw [if_neg hj];exact ⟨z,hz,rfl,rfl⟩
 have hda:∀ c,Sp.dirAt (L.set k y) c = true ↔ Sp.dirAt L c = true:=fun c=>by
  rw [Sp.dirAt_iff,Sp.dirAt_iff,hg]
  by_cases hc:c = k
  ·subst hc;rw [if_pos rfl,hx];constructor
   ·rintro ⟨z,hz,hz2⟩
    cases hz
    omega
   ·rintro ⟨z,hz,hz2⟩
    cases hz
    omega
  ·rw [if_neg hc]
 refine Sp.isSp_mk hr (fun i x' hx'=>?_) fun c hd=>?_
 ·rw [hg] at hx';have hni:=hn (i:Int);split at hx'
  ·rename_i e1
   cases hx'
   subst e1;obtain ⟨_,_,n1,_,_⟩:=ho i x hx;refine ⟨fun h=>?_,fun h=>?_,fun h=>?_,fun h=>?_,fun h=>absurd h hk0⟩
   ·omega
   ·omega
   ·have:=n1 hk;omega
   ·omega
  ·obtain ⟨o1,o2,n1,n2,n3⟩:=ho i x' hx';exact ⟨o1,fun h e he=>hnm e (Sp.all_of hx' he),fun h=>by have:=n1 h;omega,fun h h0=>by have:=n2 h h0;omega,fun h=>by have:=n3 h;omega⟩
 ·obtain ⟨d,ha⟩:=Sp.isSp_reach hs ((hda c).1 hd);refine ⟨d,Sp.anc_mono (fun p c hpc=>?_) d 0 c ha⟩;obtain ⟨⟨z,hz,e,hez,hec⟩,hdc⟩:=Sp.child_iff.1 hpc;refine Sp.child_iff.2 ⟨⟨z,?_,e,hez,hec⟩,(hda c).2 hdc⟩;rw [hg,if_neg]
  ·exact hz
  ·rintro rfl;rw [hx] at hz
   cases hz
   rw [hxe] at hez
   cases hez
theorem rx_put {L:List Ino} {O:List Os.Opn} {dn:Int} {k:Nat} {x y:Ino} (h:RX L O dn (fun _=>False)) (hd:dn + 1<=1099511627776) (hx:L[k]? = some x) (hk:x.kind = 1) (hy:one y = true) (h1:y.gen = x.gen) (h2:y.kind = 1) (h3:y.links = x.links) (h4:y.stamp = dn + 1) (h5:By (L.set k y)<=8192):RX (L.set k y) O (dn + 1) (fun _=>False):=by
 have hr:=(Sp.isSp_iff.1 h.sp).1;have hr2:=Sp.right_set hr hx hy (by omega);have hg:=get_one (y:=y) hx;refine ⟨sp_set h.sp hx hk hr2 (ents_file hy (by omega)) (.inl ⟨h2,h1,h3⟩),h.os,fun o ho=>?_,fun i x' hx' hk' hl hq=>?_,h5,⟨by have:=h.dn.1;omega,by have:=h.dn.1;omega⟩,fun x' hx'=>?_⟩
 ·obtain ⟨i,z,hz,hno,hgz,hkz⟩:=h.fl o ho
  by_cases hi:i = k
  ·subst hi;rw [hx] at hz
   cases hz
   exact ⟨i,y,by rw [hg,if_pos rfl],hno,by omega,h2⟩
  ·exact ⟨i,z,by rw [hg,if_neg hi];exact hz,hno,hgz,hkz⟩
 ·rw [hg] at hx';split at hx'
  ·rename_i e
   cases hx'
   subst e;rw [h1];exact h.nd i x hx hk (by omega) id
  ·exact h.nd i x' hx' hk' hl id
 ·obtain ⟨i,hi⟩:=List.mem_iff_getElem?.1 hx';rw [hg] at hi;split at hi
  ·cases hi
   omega
  ·have:=h.dn.2 x' (List.mem_of_getElem? hi);omega
theorem rx_drop {L:List Ino} {O:List Os.Opn} {dn:Int} {k:Nat} {x:Ino} (h:RX L O dn (fun i=>i = k)) (hx:L[k]? = some x) (hk:x.kind = 1) (hl:x.links = 0) (hn:¬ Hl O k x.gen):RX (L.set k (gone x.gen)) O dn (fun _=>False):=by
 have hr:=(Sp.isSp_iff.1 h.sp).1;have hbd:=one_bd ((It.right_iff.1 hr).2.2 x (List.mem_of_getElem? hx));have hlen:=(qM hx);have h24:=right_len24 hr;have hk0:k≠0:=by
  rintro rfl;have:=Sp.root_kind hr hx;omega
 have hr2:It.right (L.set k (gone x.gen)) = true:=by
  have r2:=right_put (no:=k) (x:=gone x.gen) hr (by omega) (by omega) (by omega) (one_gone hbd)
  rwa [Sp.put_set hx] at r2
 have hg:=get_one (y:=gone x.gen) hx;refine ⟨sp_set h.sp hx hk hr2 rfl (.inr ⟨rfl,hl⟩),h.os,fun o ho=>?_,fun i x' hx' hk' hl' hq=>?_,?_,h.dn.1,fun x' hx'=>?_⟩
 ·obtain ⟨i,z,hz,hno,hgz,hkz⟩:=h.fl o ho;refine ⟨i,z,?_,hno,hgz,hkz⟩;rw [hg,if_neg]
  ·exact hz
  ·rintro rfl;rw [hx] at hz
   cases hz
   exact hn ⟨o,ho,hno,by omega⟩
 ·rw [hg] at hx';split at hx'
  ·cases hx'
   exact absurd (show (0:Int) = 1 from hk') (by decide)
  ·rename_i hik
   exact h.nd i x' hx' hk' hl' hik
 ·have hb:=By_set L k x (gone x.gen) hx;have e:tot (gone x.gen).runs = 0:=rfl;have:=h.by8;omega
 ·obtain ⟨i,hi⟩:=List.mem_iff_getElem?.1 hx';rw [hg] at hi;split at hi
  ·cases hi
   exact h.dn.1.1
  ·exact h.dn.2 x' (List.mem_of_getElem? hi)
theorem rx_more {L:List Ino} {O:List Os.Opn} {dn:Int} {q:Nat->Prop} (h:RX L O dn q) (hd:dn + 1<=1099511627776):RX L O (dn + 1) q:=⟨h.sp,h.os,h.fl,h.nd,h.by8,⟨by have:=h.dn.1;omega,hd⟩,fun x hx=>by have:=h.dn.2 x hx;omega⟩
theorem rx_all {L:List Ino} {O:List Os.Opn} {dn:Int} {k:Nat} (h:RX L O dn (fun i=>i = k)) (hk:∀ x,L[k]? = some x->x.kind = 1->x.links<=0->Hl O k x.gen):RX L O dn (fun _=>False):=⟨h.sp,h.os,h.fl,fun i x hx h1 h2 _=>by
 by_cases hi:i = k
 ·subst hi;exact hk x hx h1 h2
 ·exact h.nd i x hx h1 h2 hi,h.by8,h.dn⟩
end Nf
namespace Nf
theorem chg_mk {L L':List Ino} {st:Int} {kt:Nat} {P:Ent->Prop} (sp:Sp.isSp L' = true) (old:∀ (i:Nat) (x:Ino),L[i]? = some x->∃ x',L'[i]? = some x'/\Kin st (i = kt) P x x') (new:∀ (i:Nat) (x':Ino),L.length<=i->L'[i]? = some x'->∃ g k,x' = fresh g k st):Chg L L' st kt P:=by
 refine ⟨sp,?_,old,new⟩;rcases Nat.lt_or_ge L'.length L.length with h | h
 ·obtain ⟨x',hx',_⟩:=old L'.length _ (List.getElem?_eq_getElem h);simp at hx'
 ·exact h
theorem chg_two {L:List Ino} {st:Int} {kt kc kd:Nat} {xc xd y z:Ino} {P:Ent->Prop} (hne:kc≠kd) (hc:L[kc]? = some xc) (hd:L[kd]? = some xd) (sp:Sp.isSp ((L.set kc y).set kd z) = true) (h1:Kin st (kc = kt) P xc y) (h2:Kin st (kd = kt) P xd z):Chg L ((L.set kc y).set kd z) st kt P:=by
 have hg:=Sp.get_two (y:=y) (z:=z) hne hc hd;refine chg_mk sp (fun i x hx=>?_) fun i x' hi hx'=>?_
 ·rw [hg]
  by_cases e1:i = kd
  ·subst e1;rw [hd] at hx
   cases hx
   exact ⟨z,if_pos rfl,h2⟩
  ·rw [if_neg e1]
   by_cases e2:i = kc
   ·subst e2;rw [hc] at hx
    cases hx
    exact ⟨y,if_pos rfl,h1⟩
   ·rw [if_neg e2];exact ⟨x,hx,kin_self x⟩
 ·have hl:((L.set kc y).set kd z)[i]? = none:=by
   rw [List.getElem?_eq_none];simp;omega
  rw [hl] at hx'
  cases hx'
theorem dir_size {L:List Ino} {k:Nat} {x:Ino} (hr:It.right L = true) (hx:L[k]? = some x) (hk:x.kind = 2):x.runs = []:=runs_nil ((It.right_iff.1 hr).2.2 x (List.mem_of_getElem? hx)) (by omega)
theorem make_chg {L:List Ino} {a b kind st:Int} {s:ByteArray} (h:Sp.mkE (Sp.chk Sp.isSp) L a b s kind st = 0):Chg L (Sp.mkT (Sp.chk Sp.isSp) L a b s kind st) st 0 (fun _=>False):=by
 obtain ⟨kc,xc,nn,g,hs,ha,hxc,hgc,hkc,hH,hadd,hne,h0,hg⟩:=Sp.make_form h;have hl:=(qM hxc);refine chg_mk (Sp.make_stays h) (fun i x hx=>?_) fun i x' hi hx'=>?_
 ·rw [hg]
  by_cases e1:i = kc
  ·subst e1;rw [hxc] at hx
   cases hx
   exact ⟨_,if_pos rfl,.inl ⟨rfl,rfl,rfl,fun h1=>by omega,.inr rfl,.inl (Int.le_refl _),fun e he=>.inl (List.mem_append_left _ he)⟩⟩
  ·rw [if_neg e1]
   by_cases e2:i = nn
   ·subst e2;exact ⟨_,if_pos rfl,.inr (.inr ⟨h0 x hx,g,kind,rfl⟩)⟩
   ·rw [if_neg e2];exact ⟨x,hx,kin_self x⟩
 ·rw [hg,if_neg (by omega)] at hx';split at hx'
  ·cases hx'
   exact ⟨g,kind,rfl⟩
  ·rw [List.getElem?_eq_none hi] at hx'
   cases hx'
theorem link_chg {L:List Ino} {a b c d st:Int} {s:ByteArray} (h:Sp.linkE (Sp.chk Sp.isSp) L a b c d s st = 0):Chg L (Sp.linkT (Sp.chk Sp.isSp) L a b c d s st) st 0 (fun _=>False):=by
 have hst:=Sp.link_stays h;unfold Sp.linkT at hst ⊢;rw [if_pos h] at hst ⊢;unfold Sp.linkE at h
 by_cases hl:Sp.linkErr (Sp.chk Sp.isSp) L a b c d s st = 0
 ·obtain ⟨⟨hc0,_⟩,hfa,hka,hla,hdc⟩:=Sp.linkErr_zero hl;obtain ⟨ka,xa,ha,hxa,hga,hka0,hia,hr⟩:=Sp.find_get hfa;obtain ⟨kc,xc,hc,hxc,hgc,hkc,hec,hnc,hfc,-⟩:=Sp.dir_get hdc;have hic:=Sp.find_same hfc hc hxc;rw [hia] at hka;rw [hia,hic,ha,hc,show ((ka:Int)).toNat = ka by omega,show ((kc:Int)).toNat = kc by omega] at hst ⊢;refine chg_two ?_ hxc hxa hst (.inl ⟨rfl,rfl,rfl,fun h1=>by omega,.inr rfl,.inl (Int.le_refl _),fun e he=>.inl (List.mem_append_left _ he)⟩) (.inl ⟨rfl,rfl,rfl,fun _=>rfl,.inr rfl,.inl (by show xa.links<=xa.links + 1;omega),fun e he=>.inl he⟩);rintro rfl;rw [hxc] at hxa
  cases hxa
  exact hka hkc
 ·rw [if_neg hl] at h;exact absurd h hl
theorem plc_name {es:List Ent} {nx:Int} {s:ByteArray} {j:Nat} {e:Ent} (hf:Fo.findErr es nx s = 0) (hp:Fo.plc es nx s = j) (hj:es[j]? = some e):e.1 = s:=by
 unfold Fo.plc at hp;rw [if_pos hf] at hp;unfold Fo.at' at hp
 cases hi:es.findIdx? (Fo.called s) with
 | none =>
  rw [hi] at hp;simp at hp
 | some k =>
  rw [hi] at hp;have e1:k = j:=by
   simp at hp;omega
  subst e1;obtain ⟨hk,h2,_⟩:=List.findIdx?_eq_some_iff_getElem.1 hi;rw [List.getElem?_eq_getElem hk] at hj
  cases hj
  unfold Fo.called at h2;have h3:=eq_of_beq h2;rw [ByteArray.toList_eq,ByteArray.toList_eq] at h3;exact ByteArray.ext (Array.toList_inj.1 h3)
theorem less_kin {st:Int} {q:Prop} {x:Ino} {j:Nat} {e:Ent} {P:Ent->Prop} (hk:x.kind = 2) (hj:x.ents[j]? = some e) (hP:P e):Kin st q P x (Sp.filled x (x.ents.eraseIdx j) x.next st) :=
 .inl ⟨rfl,rfl,rfl,fun h1=>by omega,.inr rfl,.inl (Int.le_refl _),fun z hz=>by
  rcases Sp.erase_sup hj z hz with h | h
  ·exact .inl h
  ·exact .inr (by rw [h];exact hP)⟩
theorem unlink_chg {L:List Ino} {a b st:Int} {s:ByteArray} (h:Sp.ulE (Sp.chk Sp.isSp) L a b s st = 0):∃ (kt:Nat) (y:Ino),Sp.ulH (Sp.chk Sp.isSp) L a b s st = ((kt:Int),y.gen)/\(Sp.ulT (Sp.chk Sp.isSp) L a b s st)[kt]? = some y/\y.kind = 1/\kt≠0/\Chg L (Sp.ulT (Sp.chk Sp.isSp) L a b s st) st kt (fun e=>e.1 = s):=by
 have hst:=Sp.unlink_stays h;unfold Sp.ulH;rw [if_pos h];unfold Sp.ulT at hst ⊢;rw [if_pos h] at hst ⊢;unfold Sp.ulE at h
 by_cases hl:Sp.toErr (Sp.chk Sp.isSp) L st a b s = 0
 ·rw [if_pos hl] at h;obtain ⟨kc,xc,j,e,kt,xt,ha,hxc,hgc,hkc,hfc,hff,hp,hj,hH,hek,hk0,hxt,hgt,hkt0,hlt,hft,hit,hic,hr,-,hlc⟩:=Sp.to_zero isSp_means hl;rw [hH,hit] at h;have hk2:xt.kind≠2:=fun h2=>by
   rw [if_pos h2] at h;exact absurd h (by decide)
  have hatt:=At.right_iff.1 (Sp.attr_of hr (List.mem_of_getElem? hxt));unfold At.rightP at hatt;have hk1:xt.kind = 1:=by omega
  rw [hH,hit] at hst ⊢;unfold Sp.lessDir at hst ⊢;rw [hic,hp,ha,hek,show ((kc:Int)).toNat = kc by omega,show ((j:Int)).toNat = j by omega,show ((kt:Int)).toNat = kt by omega] at hst ⊢;have hne:kc≠kt:=by
   rintro rfl;rw [hxc] at hxt
   cases hxt
   omega
  have hnm:e.1 = s:=plc_name hff hp hj;refine ⟨kt,Sp.linked xt (-1) st,?_,?_,hk1,hk0,chg_two hne hxc hxt hst (less_kin hkc hj hnm) (.inl ⟨rfl,rfl,rfl,fun _=>rfl,.inr rfl,.inr rfl,fun e he=>.inl he⟩)⟩
  ·exact Prod.ext hek hgt.symm
  ·rw [Sp.get_two hne hxc hxt,if_pos rfl]
 ·rw [if_neg hl] at h;exact absurd h hl
theorem rmdir_chg {L:List Ino} {a b st:Int} {s:ByteArray} (h:Sp.rmE (Sp.chk Sp.isSp) L a b s st = 0):Chg L (Sp.rmT (Sp.chk Sp.isSp) L a b s st) st 0 (fun e=>e.1 = s/\∃ x,L[e.2.2.1.toNat]? = some x/\x.kind = 2):=by
 have hst:=Sp.rmdir_stays h;unfold Sp.rmT at hst ⊢;rw [if_pos h] at hst ⊢;unfold Sp.rmE at h
 by_cases hl:Sp.toErr (Sp.chk Sp.isSp) L st a b s = 0
 ·rw [if_pos hl] at h;obtain ⟨kc,xc,j,e,kt,xt,ha,hxc,hgc,hkc,hfc,hff,hp,hj,hH,hek,hk0,hxt,hgt,hkt0,hlt,hft,hit,hic,hr,-,hlc⟩:=Sp.to_zero isSp_means hl;rw [hH,hit] at h
  by_cases hk2:xt.kind = 2
  ·rw [if_pos hk2] at h
   by_cases hen:xt.ents = []
   ·rw [hH] at hst ⊢;unfold Sp.lessDir at hst ⊢;rw [hic,hp,ha,hek,← hgt,show ((kc:Int)).toNat = kc by omega,show ((j:Int)).toNat = j by omega,show ((kt:Int)).toNat = kt by omega] at hst ⊢;have hne:kc≠kt:=by
     rintro rfl;rw [hxc] at hxt
     cases hxt
     rw [hen] at hj;simp at hj
    have hnm:e.1 = s:=plc_name hff hp hj;exact chg_two hne hxc hxt hst (less_kin hkc hj ⟨hnm,xt,by rw [hek,show ((kt:Int)).toNat = kt by omega];exact hxt,hk2⟩) (.inr (.inl ⟨hk2,hen,rfl⟩))
   ·rw [if_neg hen] at h;exact absurd h (by decide)
  ·rw [if_neg hk2] at h;exact absurd h (by decide)
 ·rw [if_neg hl] at h;exact absurd h hl
theorem rename_chg {L:List Ino} {a b c d st:Int} {s s2:ByteArray} (h:Sp.rnE (Sp.chk Sp.isSp) Sp.insB L a b s c d s2 st = 0):Chg L (Sp.rnT (Sp.chk Sp.isSp) Sp.insB L a b s c d s2 st) st 0 (fun e=>e.1 = s):=by
 have hst:=Sp.rename_stays h;unfold Sp.rnT at hst ⊢;rw [if_pos h] at hst ⊢;unfold Sp.rnE at h
 by_cases hl:Sp.toErr (Sp.chk Sp.isSp) L st a b s = 0
 ·rw [if_pos hl] at h;obtain ⟨kc,xc,j,e,kt,xt,ha,hxc,hgc,hkc,hfc,hff,hp,hj,hH,hek,hk0,hxt,hgt,hkt0,hlt,hft,hit,hic,hr,hs1,hlc⟩:=Sp.to_zero isSp_means hl;rw [hH] at h hst ⊢
  by_cases hm:Sp.moveErr Sp.insB L e.2.2.1 c d s2 = 0
  ·have hdd:=Sp.moveErr_zero hm;obtain ⟨kd,xd,hd,hxd,hgd,hkd,-,-,hfd,-⟩:=Sp.dir_get hdd;have eL:Sp.lessDir L a b s st = L.set kc (Sp.filled xc (xc.ents.eraseIdx j) xc.next st):=by
    unfold Sp.lessDir;rw [hic,hp,ha,show ((kc:Int)).toNat = kc by omega,show ((j:Int)).toNat = j by omega]
   have hnm:e.1 = s:=plc_name hff hp hj;have h1:=get_one (y:=Sp.filled xc (xc.ents.eraseIdx j) xc.next st) hxc;have hk1:Kin st False (fun e=>e.1 = s) xc (Sp.filled xc (xc.ents.eraseIdx j) xc.next st):=less_kin hkc hj hnm;obtain ⟨x1,hx1⟩:∃ x1,(L.set kc (Sp.filled xc (xc.ents.eraseIdx j) xc.next st))[kd]? = some x1:=by
    rw [h1];split
    ·exact ⟨_,rfl⟩
    ·exact ⟨xd,hxd⟩
   have eM:Sp.midI L a b s st c = x1:=by
    unfold Sp.midI;rw [eL,hd,show ((kd:Int)).toNat = kd by omega,hx1];rfl
   rw [eM,eL,hd,show ((kd:Int)).toNat = kd by omega] at hst ⊢;have h2:=get_one (y:=Sp.filled x1 (x1.ents ++ [(s2,x1.next + 1,e.2.2)]) (x1.next + 1) st) hx1;refine chg_mk hst (fun i x hx=>?_) fun i x' hi hx'=>?_
   ·rw [h2]
    by_cases e1:i = kd
    ·rw [if_pos e1];subst e1;refine ⟨_,rfl,?_⟩;rw [h1] at hx1;split at hx1
     ·rename_i e2
      subst e2
      cases hx1
      rw [hxc] at hx
      cases hx
      refine .inl ⟨rfl,rfl,rfl,fun h1=>by omega,.inr rfl,.inl (Int.le_refl _),fun z hz=>?_⟩;rcases Sp.erase_sup hj z hz with h | h
      ·exact .inl (List.mem_append_left _ h)
      ·exact .inr (by rw [h];exact hnm)
     ·rw [hxd] at hx1
      cases hx1
      rw [hxd] at hx
      cases hx
      exact .inl ⟨rfl,rfl,rfl,fun h1=>by omega,.inr rfl,.inl (Int.le_refl _),fun z hz=>.inl (List.mem_append_left _ hz)⟩
    ·rw [if_neg e1,h1]
     by_cases e2:i = kc
     ·subst e2;rw [hxc] at hx
      cases hx
      exact ⟨_,if_pos rfl,less_kin hkc hj hnm⟩
     ·rw [if_neg e2];exact ⟨x,hx,kin_self x⟩
   ·rw [List.getElem?_eq_none (by simp;omega)] at hx'
    cases hx'
  ·rw [if_neg hm] at h;exact absurd h hm
 ·rw [if_neg hl] at h;exact absurd h hl
end Nf
namespace Nf
theorem top_le {L:List Ino} {m:Int} (h0:0<=m) (h:∀ x∈L,x.stamp<=m):Sp.top L<=m:=by
 have go:∀ (L:List Ino) (a:Int),a<=m->(∀ x∈L,x.stamp<=m)->L.foldl (fun m x=>max m x.stamp) a<=m:=by
  intro L
  induction L with
  | nil=>exact fun a h _=>h
  | cons x l ih=>exact fun a ha h=>ih (max a x.stamp) (by have:=h x (by simp);omega) (fun y hy=>h y (by simp [hy]))
 exact go L 0 h0 h
theorem tot_within (a b:Int):∀ (l:List (Int × ByteArray)),tot (Bs.Bl.within a b l)<=tot l
 | []=>Nat.le_refl _
 | r :: l => by
  have ih:tot (Bs.Bl.within a b l)<=tot l:=tot_within a b l;have e:tot (r :: l) = r.2.size + tot l:=by simp [Bs.Bl.total]
  rw [e]
  cases hq:Bs.Bl.clip a b r with
  | none =>
   have e2:Bs.Bl.within a b (r :: l) = Bs.Bl.within a b l:=by simp [Bs.Bl.within,hq]
   rw [e2];omega
  | some q =>
   have e2:Bs.Bl.within a b (r :: l) = q :: Bs.Bl.within a b l:=by simp [Bs.Bl.within,hq]
   have e3:tot (q :: Bs.Bl.within a b l) = q.2.size + tot (Bs.Bl.within a b l):=by simp [Bs.Bl.total]
   rw [e2,e3];obtain ⟨q1,q2,q3⟩:=Bs.Bl.clip_some hq;unfold Bs.Bl.rend at q2;omega
theorem fnd_zero {L:List Ino} {a b kind e:Int} (h:fndE L a b kind e = 0) (he:e≠0):∃ (k:Nat) (x:Ino),a = k/\L[k]? = some x/\x.gen = b/\x.kind = kind/\findI L a b = x/\findErr L a b = 0:=by
 unfold fndE at h
 by_cases hf:findErr L a b = 0
 ·rw [if_pos hf] at h;obtain ⟨k,x,hk,hx,hg,_,hi,_⟩:=Sp.find_get hf;rw [hi] at h
  by_cases hk2:x.kind = kind
  ·exact ⟨k,x,hk,hx,hg,hk2,hi,hf⟩
  ·rw [if_neg hk2] at h;exact absurd h he
 ·rw [if_neg hf] at h;exact absurd h hf
theorem fnd_ok {L:List Ino} {k:Nat} {x:Ino} {e:Int} (hr:It.right L = true) (hx:L[k]? = some x) (hk:x.kind≠0):fndE L k x.gen x.kind e = 0/\findErr L k x.gen = 0/\findI L k x.gen = x:=by
 have hf:findErr L k x.gen = 0:=by
  rw [find_err hr,if_pos (names_iff.2 ⟨k,x,hx,rfl,rfl,hk⟩)]
 have hi:=Sp.find_same hf rfl hx;refine ⟨?_,hf,hi⟩;unfold fndE;rw [if_pos hf,hi,if_pos rfl]
theorem file_bd {x:Ino} (h:one x = true) (hk:x.kind = 1):x.ents = []/\x.next = 0/\Bl.right (-1) x.runs/\Bl.endOf x.runs<=x.size/\(0<=x.size/\x.size<=1048576)/\(0<=x.links/\x.links<=64)/\(0<=x.stamp/\x.stamp<=1099511627776):=by
 have h0:=h;unfold one at h;simp only [Bool.and_eq_true] at h;have h3:=h.2.2;rw [if_neg (by omega),if_pos hk] at h3;simp only [Bool.and_eq_true,decide_eq_true_eq] at h3;have ha:=At.right_iff.1 h.2.1;unfold At.rightP at ha;exact ⟨List.isEmpty_iff.1 h3.1.1.1,h3.1.1.2,h3.1.2,h3.2,by omega,by omega,by omega⟩
theorem one_file' {x y:Ino} (h:one x = true) (hk:x.kind = 1) (h1:y.gen = x.gen) (h2:y.kind = 1) (h3:y.links = x.links) (h4:y.ents = x.ents) (h5:y.next = x.next) (h6:0<=y.stamp/\y.stamp<=1099511627776) (h7:y.size<=1048576) (h8:Bl.right (-1) y.runs) (h9:Bl.endOf y.runs<=y.size) (h10:0<=y.size):one y = true:=by
 obtain ⟨b1,b2,b3,b4,b5,b6,b7⟩:=file_bd h hk;have hbd:=one_bd h;obtain ⟨g,k,l,s,t,rs,es,nx⟩:=y;simp only at h1 h2 h3 h4 h5 h6 h7 h8 h9 h10;subst h2;rw [one_file (by omega) (At.right_iff.2 (by unfold At.rightP;omega))];simp only [Bool.and_eq_true,decide_eq_true_eq];exact ⟨⟨⟨by rw [h4,b1];rfl,by omega⟩,h8⟩,h9⟩
noncomputable abbrev wrY (x:Ino) (c:Cal) (dn:Int):Ino:={ x with size:=wrN x c,stamp:=dn,runs:=Bs.Bl.write x.runs c.pl c.data }
structure WrOk (L:List Ino) (c:Cal) (k:Nat) (x:Ino):Prop where
 no:c.no = k
 hx:L[k]? = some x
 gen:x.gen = c.gen
 kind:x.kind = 1
 d0:c.data.size≠0
 d1:c.data.size<=512
 p0:0<=c.pl
 p1:c.pl + (c.data.size:Int)<=1048576
 room:By L + tot (Bs.Bl.write x.runs c.pl c.data)<=8192 + tot x.runs
theorem tot_mem {L:List Ino} {k:Nat} {x:Ino} (hx:L[k]? = some x):tot x.runs<=By L:=by
 have h:=By_set L k x zeroI hx;have e:tot zeroI.runs = 0:=rfl;omega
theorem wr_room {L:List Ino} {k:Nat} {x:Ino} {c:Cal} (hr:It.right L = true) (hb:By L<=8192) (hx:L[k]? = some x) (hw:Bs.Bl.wErr x.runs c.pl c.data = 0):Bs.Bl.wOut x.runs c.pl c.data = Bs.Bl.write x.runs c.pl c.data/\Bl.right (-1) (Bs.Bl.write x.runs c.pl c.data)/\room L x c = (By L:Int) - tot x.runs + tot (Bs.Bl.write x.runs c.pl c.data):=by
 obtain ⟨h1,h2,h3⟩:=Bs.Bl.wErr_ok hw;have hwr:=(br _ _).1 (Bs.Bl.write_right h1 h2 h3);have e:Bs.Bl.wOut x.runs c.pl c.data = Bs.Bl.write x.runs c.pl c.data:=by unfold Bs.Bl.wOut;rw [if_pos hw]
 refine ⟨e,hwr,?_⟩;have hm:=tot_mem hx;have ht:=tot_le hwr;unfold room wrO;rw [e,all_by hr,sumw_tot ((br _ _).1 h1),sumw_tot hwr,wrap_id (x:=(By L:Int) - tot x.runs) (by omega),wrap_id (by omega)]
theorem wr_y {L:List Ino} {O:List Os.Opn} {dn:Int} {k:Nat} {x:Ino} {c:Cal} (h:RX L O dn (fun _=>False)) (hd:dn + 1<=1099511627776) (g:WrOk L c k x):Bs.Bl.wErr x.runs c.pl c.data = 0/\one (wrY x c (dn + 1)) = true/\wrX x c (dn + 1) = wrY x c (dn + 1)/\RX (L.set k (wrY x c (dn + 1))) O (dn + 1) (fun _=>False):=by
 have hr:=(Sp.isSp_iff.1 h.sp).1;have h1x:=(It.right_iff.1 hr).2.2 x (List.mem_of_getElem? g.hx);have h0:=h.dn.1;obtain ⟨b1,b2,b3,b4,b5,b6,b7⟩:=file_bd h1x g.kind;have hw:Bs.Bl.wErr x.runs c.pl c.data = 0:=by
  unfold Bs.Bl.wErr;rw [if_pos ((br _ _).2 b3),if_neg (by have:=g.p0;omega),if_neg (by have:=g.p1;omega)]
 obtain ⟨e1,e2,e3⟩:=wr_room hr h.by8 g.hx hw;have hN:wrN x c = max x.size (Bl.endOf (Bs.Bl.write x.runs c.pl c.data)):=by unfold wrN wrO;rw [e1,bend]
 have hE:Bl.endOf (Bs.Bl.write x.runs c.pl c.data)<=1048576:=by
  unfold Bl.endOf;rw [if_pos e2];rcases Bl.snoc_cases (Bs.Bl.write x.runs c.pl c.data) with h | ⟨m,s,h⟩
  ·rw [h];decide
  ·rw [h,Bl.lastEnd_append];rw [h] at e2;exact (Bl.right_mem e2 s (by simp)).2.2
 have hone:one (wrY x c (dn + 1)) = true:=one_file' h1x g.kind rfl g.kind rfl rfl rfl (by show 0<=dn + 1/\dn + 1<=1099511627776;omega) (by show wrN x c<=_;omega) e2 (by show _<=wrN x c;rw [hN];exact Int.le_max_right _ _) (by show 0<=wrN x c;omega);have hg:gE x (wrN x c) (dn + 1) = 0:=Sp.grow_ok hr g.hx (by have:=g.kind;omega) ⟨top_le (by omega) fun z hz=>by have:=h.dn.2 z hz;omega,by omega⟩ (by omega);refine ⟨hw,hone,?_,rx_put h hd g.hx g.kind hone rfl g.kind rfl rfl ?_⟩
 ·unfold wrX;rw [if_pos hg];unfold wrO;rw [e1]
 ·have hb:=By_set L k x (wrY x c (dn + 1)) g.hx;have e:tot (wrY x c (dn + 1)).runs = tot (Bs.Bl.write x.runs c.pl c.data):=rfl;have:=g.room;omega
theorem wr_ok {L:List Ino} {O:List Os.Opn} {dn:Int} {k:Nat} {x:Ino} {c:Cal} (h:RX L O dn (fun _=>False)) (hd:dn + 1<=1099511627776) (g:WrOk L c k x):wrT L c (dn + 1) = L.set k (wrY x c (dn + 1))/\(wrP L c (dn + 1)).e = 0:=by
 have hr:=(Sp.isSp_iff.1 h.sp).1;obtain ⟨hw,hone,hX,_⟩:=wr_y h hd g;obtain ⟨f1,f2,f3⟩:=fnd_ok (e:=405) hr g.hx (by have:=g.kind;omega);rw [g.kind] at f1;obtain ⟨e1,e2,e3⟩:=wr_room hr h.by8 g.hx hw;have hroom:=g.room;have hp:=Sp.putTab_set (y:=wrY x c (dn + 1)) f2 g.hx rfl (by show x.kind≠0;have:=g.kind;omega) hone rfl;unfold wrT wrP ptT;rw [g.no,← g.gen,f1,f3,hX,hw,hp.1,hp.2,if_neg (by decide),if_neg (by have:=g.d1;omega),if_neg (by decide),if_neg g.d0,if_neg (by omega),if_pos rfl,if_neg (by decide),if_neg (by have:=g.d1;omega),if_neg (by decide),if_neg g.d0,if_neg (by omega)];exact ⟨rfl,rfl⟩
theorem wr_or {L:List Ino} {O:List Os.Opn} {dn:Int} {c:Cal} (h:RX L O dn (fun _=>False)) (dm:Int):(wrT L c dm = L/\((wrP L c dm).e≠0->wrP L c dm = bad (wrP L c dm).e))∨∃ k x,WrOk L c k x:=by
 have hr:=(Sp.isSp_iff.1 h.sp).1
 by_cases h1:fndE L c.no c.gen 1 405 = 0
 ·by_cases h2:512 < c.data.size
  ·left;unfold wrT wrP;rw [if_neg (by simpa using h1),if_pos h2,if_neg (by simpa using h1),if_pos h2];exact ⟨rfl,fun _=>rfl⟩
  ·obtain ⟨k,x,hno,hx,hg,hk,hi,hf⟩:=fnd_zero h1 (by decide)
   by_cases h3:Bs.Bl.wErr x.runs c.pl c.data = 0
   ·by_cases h4:c.data.size = 0
    ·left;unfold wrT wrP;rw [hi,if_neg (by simpa using h1),if_neg h2,if_neg (by simpa using h3),if_pos h4,if_neg (by simpa using h1),if_neg h2,if_neg (by simpa using h3),if_pos h4];exact ⟨rfl,fun h=>absurd rfl h⟩
    ·by_cases h5:8192 < room L x c
     ·left;unfold wrT wrP;rw [hi,if_neg (by simpa using h1),if_neg h2,if_neg (by simpa using h3),if_neg h4,if_pos h5,if_neg (by simpa using h1),if_neg h2,if_neg (by simpa using h3),if_neg h4,if_pos h5];exact ⟨rfl,fun _=>rfl⟩
     ·right;obtain ⟨w1,w2,w3⟩:=Bs.Bl.wErr_ok h3;obtain ⟨e1,e2,e3⟩:=wr_room hr h.by8 hx h3;have hm:=tot_mem hx;exact ⟨k,x,hno,hx,hg,hk,h4,by omega,w2,w3,by omega⟩
   ·left;unfold wrT wrP;rw [hi,if_neg (by simpa using h1),if_neg h2,if_pos h3,if_neg (by simpa using h1),if_neg h2,if_pos h3];exact ⟨rfl,fun _=>rfl⟩
 ·left;unfold wrT wrP;rw [if_pos h1,if_pos h1];exact ⟨rfl,fun _=>rfl⟩
structure CuOk (L:List Ino) (c:Cal) (k:Nat) (x:Ino):Prop where
 no:c.no = k
 hx:L[k]? = some x
 gen:x.gen = c.gen
 kind:x.kind = 1
 p0:0<=c.pl
 p1:c.pl<=1048576
abbrev cuY (x:Ino) (c:Cal) (dn:Int):Ino:={ x with size:=c.pl,stamp:=dn,runs:=Bs.Bl.within 0 c.pl x.runs }
theorem cu_ok {L:List Ino} {O:List Os.Opn} {dn:Int} {k:Nat} {x:Ino} {c:Cal} (h:RX L O dn (fun _=>False)) (hd:dn + 1<=1099511627776) (g:CuOk L c k x):cuT L c (dn + 1) = L.set k (cuY x c (dn + 1))/\(cuP L c (dn + 1)).e = 0/\RX (L.set k (cuY x c (dn + 1))) O (dn + 1) (fun _=>False):=by
 have hr:=(Sp.isSp_iff.1 h.sp).1;have h1x:=(It.right_iff.1 hr).2.2 x (List.mem_of_getElem? g.hx);have h0:=h.dn.1;have hp0:=g.p0;have hp1:=g.p1;obtain ⟨b1,b2,b3,b4,b5,b6,b7⟩:=file_bd h1x g.kind;have hcr:Bl.right (-1) (Bs.Bl.within 0 c.pl x.runs):=(br _ _).1 (cut_right ((br _ _).2 b3));have hce:Bs.Bl.cOut x.runs c.pl = Bs.Bl.within 0 c.pl x.runs:=by
  unfold Bs.Bl.cOut Bs.Bl.cErr;rw [if_pos ((br _ _).2 b3),if_neg (show ¬ c.pl < 0 by omega),if_pos rfl]
 have hE:Bl.endOf (Bs.Bl.within 0 c.pl x.runs)<=c.pl:=by
  unfold Bl.endOf;rw [if_pos hcr,← ble];exact Bs.Bl.lastEnd_within _ _ _ hp0
 have hone:one (cuY x c (dn + 1)) = true:=one_file' h1x g.kind rfl g.kind rfl rfl rfl (by show 0<=dn + 1/\dn + 1<=1099511627776;omega) hp1 hcr hE hp0;have hg:gE x c.pl (dn + 1) = 0:=Sp.grow_ok hr g.hx (by have:=g.kind;omega) ⟨top_le (by omega) fun z hz=>by have:=h.dn.2 z hz;omega,by omega⟩ (by omega);have hX:cuX x c (dn + 1) = cuY x c (dn + 1):=by unfold cuX;rw [hce]
 obtain ⟨f1,f2,f3⟩:=fnd_ok (e:=405) hr g.hx (by have:=g.kind;omega);rw [g.kind] at f1;have hp:=Sp.putTab_set (y:=cuY x c (dn + 1)) f2 g.hx rfl (by show x.kind≠0;have:=g.kind;omega) hone rfl;refine ⟨?_,?_,rx_put h hd g.hx g.kind hone rfl g.kind rfl rfl ?_⟩
 ·unfold cuT ptT;rw [g.no,← g.gen,f1,f3,hX,hg,if_pos rfl,if_pos rfl,hp.1,if_pos rfl,hp.2]
 ·unfold cuP;rw [g.no,← g.gen,f1,f3,hX,hg,if_pos rfl,if_pos rfl,hp.1]
 ·have hb:=By_set L k x (cuY x c (dn + 1)) g.hx;have ht:=tot_within 0 c.pl x.runs;have e:tot (cuY x c (dn + 1)).runs = tot (Bs.Bl.within 0 c.pl x.runs):=rfl;have:=h.by8;omega
theorem cu_or {L:List Ino} {c:Cal} (dm:Int):(cuT L c dm = L/\cuP L c dm = bad (cuP L c dm).e/\(cuP L c dm).e≠0)∨∃ k x,CuOk L c k x:=by
 by_cases h1:fndE L c.no c.gen 1 405 = 0
 ·obtain ⟨k,x,hno,hx,hg,hk,hi,hf⟩:=fnd_zero h1 (by decide)
  by_cases h2:gE x c.pl dm = 0
  ·right;have h5:0<=c.pl/\c.pl<=1048576:=by
    unfold gE At.growErr at h2;split at h2
    ·split at h2
     ·split at h2
      ·exact absurd h2 (by decide)
      ·split at h2
       ·assumption
       ·exact absurd h2 (by decide)
     ·exact absurd h2 (by decide)
    ·exact absurd h2 (by decide)
   exact ⟨k,x,hno,hx,hg,hk,h5.1,h5.2⟩
  ·left;unfold cuT cuP;rw [if_pos h1,hi,if_neg h2,if_pos h1,if_neg h2];exact ⟨rfl,rfl,h2⟩
 ·left;unfold cuT cuP;rw [if_neg h1,if_neg h1];exact ⟨rfl,rfl,h1⟩
end Nf
end Go.Proofs.YtneojimodomohaaGreat
