/- Tab, OpenT, Right, as one. -/
import Derived.Lib.SmallJoins
import Derived.SizedLaws
import Derived.Test.YtneojimodomohaaGreatV1
set_option maxHeartbeats 8000000
set_option maxRecDepth 100000
namespace Go.Proofs.YtneojimodomohaaGreat
section
open Go.RowKit
structure Grw (w:World) where
 out:World
 grown:w.grownBy out none
theorem grw_some (w:World):Nonempty (Grw w):=⟨⟨w,grown_refl _ _⟩⟩
theorem wp_region_grw {P:Program} {id:Nat} {Q:Exit->Act->World->Prop} {a:Act} {w:World} {l:List Oper} (hm:P.follows .mixedOrders = true) (hB:Region.lexB .any l.toArray = true)
  (h:wpQuiet P l.toArray (fun w'=>∃ p:Grw w,w' = p.out) (fun a'=>∀ w',(∃ p:Grw w,w' = p.out)->Q .normal a' w') l a):(Code.region id l.toArray true).wp P Q a w :=
 wp_region_quiet (C:=fun w'=>∃ p:Grw w,w' = p.out) hm hB ⟨⟨w.drew,⟨rfl,rfl,rfl,Nat.le_refl _,fun _ _ _=>rfl⟩⟩,rfl⟩ (by simpa using h)
theorem calls_grw {P:Program} {f:FuncId} {args:Array Value} {w W:World} {v:Value} (hg:w.grownBy W none)
  (h:Calls P f args W fun e w'=>e = .returned v/\Bw W w'):Calls P f args W fun e w''=>e = .returned v/\∃ p:Grw w,w'' = p.out :=
 h.mono fun _ w' ⟨he,hw⟩=>⟨he,⟨w',grown_trans hg (grown_of_below hw none)⟩,rfl⟩
theorem Grw.below {w:World} (p:Grw w):Bw w p.out:=below_none p.grown (Nat.le_refl _)
namespace It
structure Ino where
 gen:Int
 kind:Int
 links:Int
 size:Int
 stamp:Int
 runs:List (Int × ByteArray)
 ents:List (ByteArray × Int × Int × Int)
 next:Int
structure Rw where
 i:Ino
 rp:Option Addr
 rn:Nat
 rc:Nat
 ep:Option Addr
 en:Nat
 ec:Nat
def zeroI:Ino:=⟨0,0,0,0,0,[],[],0⟩
def zeroR:Rw:=⟨zeroI,none,0,0,none,0,0⟩
instance:Inhabited Ino:=⟨zeroI⟩
instance:Inhabited Rw:=⟨zeroR⟩
abbrev pl (L:List Rw):List Ino:=L.map Rw.i
def one (x:Ino):Bool:=decide (1<=x.gen/\x.gen<=1099511627776) && (At.right x.kind x.links x.size x.stamp && (if x.kind = 2 then x.runs.isEmpty else if x.kind = 1 then x.ents.isEmpty && decide (x.next = 0) && decide (Bl.right (-1) x.runs) && decide (Bl.endOf x.runs<=x.size) else x.ents.isEmpty && decide (x.next = 0) && x.runs.isEmpty))
def rootB:List Ino->Bool
 | []=>false
 | x :: _=>decide (x.kind = 2)
def right (L:List Ino):Bool:=decide (1<=L.length/\L.length<=24) && (rootB L && L.all one)
def names (L:List Ino) (no gen:Int):Bool:=decide (0<=no) && (match L[no.toNat]? with | some x=>decide (x.gen = gen/\x.kind≠0) | none=>false)
def usedFrom (k:Nat):List Ino->List (Int × Int)
 | []=>[]
 | x :: l=>if x.kind = 0 then usedFrom (k + 1) l else ((k:Int),x.gen) :: usedFrom (k + 1) l
def used (L:List Ino):List (Int × Int):=usedFrom 0 L
def nextFrom (k:Nat):List Ino->Int × Int
 | []=>((k:Int),1)
 | x :: l=>if x.kind = 0/\x.gen < 1099511627776 then ((k:Int),x.gen + 1) else nextFrom (k + 1) l
def next (L:List Ino):Int × Int:=nextFrom 0 L
def fresh (gen kind stamp:Int):Ino:=⟨gen,kind,1,0,stamp,[],[],0⟩
def put (L:List Ino) (no:Nat) (x:Ino):List Ino:=if no < L.length then L.set no x else L ++ [x]
def findErr (L:List Ino) (no gen:Int):Int:=if right L then (if names L no gen then 0 else 401) else 4
def argOk (kind stamp:Int):Bool:=decide (kind = 1∨kind = 2) && decide (0<=stamp/\stamp<=1099511627776)
def makeErr (L:List Ino) (kind stamp:Int):Int:=if right L then (if argOk kind stamp then (if (next L).1 = 24 then 407 else 0) else 1) else 4
def makeTab (L:List Ino) (kind stamp:Int):List Ino:=if makeErr L kind stamp = 0 then put L (next L).1.toNat (fresh (next L).2 kind stamp) else []
def makeH (L:List Ino) (kind stamp:Int):Int × Int:=if makeErr L kind stamp = 0 then next L else (0,0)
def putErr (L:List Ino) (no gen:Int) (x:Ino):Int:=if findErr L no gen = 0 then (if x.gen = gen/\x.kind≠0 then (if right (put L no.toNat x) then 0 else 4) else 1) else findErr L no gen
def putTab (L:List Ino) (no gen:Int) (x:Ino):List Ino:=if putErr L no gen x = 0 then put L no.toNat x else []
def gone (gen:Int):Ino:=⟨gen,0,0,0,0,[],[],0⟩
def dropErr (L:List Ino) (no gen:Int):Int:=if findErr L no gen = 0 then (if no = 0 then 1 else 0) else findErr L no gen
def dropTab (L:List Ino) (no gen:Int):List Ino:=if dropErr L no gen = 0 then put L no.toNat (gone gen) else []
def findI (L:List Ino) (no gen:Int):Ino:=if findErr L no gen = 0 then (L[no.toNat]?).getD zeroI else zeroI
def new:List Ino:=[fresh 1 2 0]
theorem one_gen {x:Ino} (h:¬ (1<=x.gen/\x.gen<=1099511627776)):one x = false:=by unfold one;rw [decide_eq_false h];rfl
theorem one_attr {x:Ino} (h:At.right x.kind x.links x.size x.stamp = false):one x = false:=by unfold one;rw [h];simp
theorem one_dir {g l s t nx:Int} {rs es} (hg:1<=g/\g<=1099511627776) (ha:At.right 2 l s t = true):one ⟨g,2,l,s,t,rs,es,nx⟩ = rs.isEmpty:=by
 unfold one;simp only;rw [decide_eq_true hg,ha];simp
theorem one_file {g l s t nx:Int} {rs es} (hg:1<=g/\g<=1099511627776) (ha:At.right 1 l s t = true):one ⟨g,1,l,s,t,rs,es,nx⟩ = (es.isEmpty && decide (nx = 0) && decide (Bl.right (-1) rs) && decide (Bl.endOf rs<=s)):=by
 unfold one;simp only;rw [decide_eq_true hg,ha];simp
theorem one_free {g l s t nx:Int} {rs es} (hg:1<=g/\g<=1099511627776) (ha:At.right 0 l s t = true):one ⟨g,0,l,s,t,rs,es,nx⟩ = (es.isEmpty && decide (nx = 0) && rs.isEmpty):=by
 unfold one;simp only;rw [decide_eq_true hg,ha];simp
theorem one_bd {x:Ino} (h:one x = true):1<=x.gen/\x.gen<=1099511627776:=by
 unfold one at h;simp only [Bool.and_eq_true,decide_eq_true_eq] at h;exact h.1
theorem kind_bd {k l s t:Int} (h:At.right k l s t = true):k = 0∨k = 1∨k = 2:=by
 rcases At.right_iff.1 h with h | ⟨_,_,h | h⟩
 ·exact .inl h.1
 ·exact .inr (.inl h.1)
 ·exact .inr (.inr h.1)
theorem right_iff {L:List Ino}:right L = true ↔ (1<=L.length/\L.length<=24)/\rootB L = true/\∀ x∈L,one x = true:=by
 unfold right;simp only [Bool.and_eq_true,decide_eq_true_eq,List.all_eq_true]
theorem mem_usedFrom {no gen:Int}:∀ (L:List Ino) (k:Nat),(no,gen)∈usedFrom k L ↔ ∃ (i:Nat) (x:Ino),L[i]? = some x/\no = ((k + i:Nat):Int)/\x.gen = gen/\x.kind≠0
 | [],k=>by simp [usedFrom]
 | y :: l, k => by
  have ih:=mem_usedFrom (no:=no) (gen:=gen) l (k + 1);have shift:(∃ (i:Nat) (x:Ino),(y :: l)[i]? = some x/\no = ((k + i:Nat):Int)/\x.gen = gen/\x.kind≠0) ↔ (no = (k:Int)/\y.gen = gen/\y.kind≠0)∨∃ (i:Nat) (x:Ino),l[i]? = some x/\no = ((k + 1 + i:Nat):Int)/\x.gen = gen/\x.kind≠0:=by
   constructor
   ·rintro ⟨i,x,hx,hn,hg,hk⟩
    match i,hx with
    | 0,hx =>
     simp at hx;subst hx;exact .inl ⟨by omega,hg,hk⟩
    | i + 1,hx=>exact .inr ⟨i,x,by simpa using hx,by omega,hg,hk⟩
   ·rintro (⟨hn,hg,hk⟩ | ⟨i,x,hx,hn,hg,hk⟩)
    ·exact ⟨0,y,rfl,by omega,hg,hk⟩
    ·exact ⟨i + 1,x,by simpa using hx,by omega,hg,hk⟩
  rw [shift,← ih];show (no,gen)∈(if y.kind = 0 then usedFrom (k + 1) l else ((k:Int),y.gen) :: usedFrom (k + 1) l) ↔ _;split
  ·rename_i h0
   constructor
   ·exact .inr
   ·rintro (h | h)
    ·exact absurd h0 h.2.2
    ·exact h
  ·rename_i h0
   rw [List.mem_cons,Prod.mk.injEq];constructor
   ·rintro (⟨h1,h2⟩ | h)
    ·exact .inl ⟨h1,h2.symm,h0⟩
    ·exact .inr h
   ·rintro (⟨h1,h2,_⟩ | h)
    ·exact .inl ⟨h1,h2.symm⟩
    ·exact .inr h
theorem names_iff {L:List Ino} {no gen:Int}:names L no gen = true ↔ ∃ (i:Nat) (x:Ino),L[i]? = some x/\no = (i:Int)/\x.gen = gen/\x.kind≠0:=by
 unfold names;simp only [Bool.and_eq_true,decide_eq_true_eq];constructor
 ·rintro ⟨h0,h⟩;split at h
  ·rename_i x hx
   simp at h;exact ⟨no.toNat,x,hx,by omega,h.1,h.2⟩
  ·cases h
 ·rintro ⟨i,x,hx,rfl,hg,hk⟩;refine ⟨by omega,?_⟩;rw [show ((i:Int)).toNat = i from by omega,hx];simp [hg,hk]
theorem mem_used {L:List Ino} {no gen:Int}:(no,gen)∈used L ↔ names L no gen = true:=by
 unfold used;rw [mem_usedFrom,names_iff];simp
theorem usedFrom_append:∀ (L:List Ino) (x:Ino) (k:Nat),usedFrom k (L ++ [x]) = usedFrom k L ++ (if x.kind = 0 then [] else [(((k + L.length:Nat):Int),x.gen)])
 | [],x,k=>by simp [usedFrom]
 | y :: l,x,k=>by
  have:=usedFrom_append l x (k + 1);simp only [List.cons_append,usedFrom,this,List.length_cons];rw [show k + 1 + l.length = k + (l.length + 1) from by omega];split <;> simp
theorem take_succ {β:Type} {l:List β} {k:Nat} {x:β} (h:l[k]? = some x):l.take (k + 1) = l.take k ++ [x]:=by
 rw [List.take_add_one,h];rfl
theorem used_take_succ {L:List Ino} {k:Nat} {x:Ino} (h:L[k]? = some x):used (L.take (k + 1)) = used (L.take k) ++ (if x.kind = 0 then [] else [((k:Int),x.gen)]):=by
 have hk:k < L.length:=(qM h);unfold used;rw [take_succ h,usedFrom_append];simp [Nat.min_eq_left (Nat.le_of_lt hk)]
theorem usedFrom_length:∀ (L:List Ino) (k:Nat),(usedFrom k L).length<=L.length
 | [],k=>by simp [usedFrom]
 | y :: l,k=>by
  have:=usedFrom_length l (k + 1);unfold usedFrom;split <;> simp <;> omega
theorem used_length (L:List Ino):(used L).length<=L.length:=usedFrom_length L 0
theorem nextFrom_drop:∀ (L:List Ino) (k:Nat) (j:Nat),j<=L.length->(∀ i x,i < j->L[i]? = some x->¬ (x.kind = 0/\x.gen < 1099511627776))->nextFrom k L = nextFrom (k + j) (L.drop j)
 | L,k,0,_,_=>by simp
 | [],k,j + 1,hj,_=>by simp at hj
 | y :: l,k,j + 1,hj,h=>by
  have ih:=nextFrom_drop l (k + 1) j (by simpa using hj) (fun i x hi hx=>h (i + 1) x (by omega) (by simpa using hx));have h0:=h 0 y (by omega) rfl;rw [List.drop_succ_cons,show k + (j + 1) = k + 1 + j from by omega,← ih];simp only [nextFrom];rw [if_neg h0]
theorem next_here {L:List Ino} {j:Nat} {x:Ino} (hx:L[j]? = some x) (h:∀ i x,i < j->L[i]? = some x->¬ (x.kind = 0/\x.gen < 1099511627776)) (hf:x.kind = 0/\x.gen < 1099511627776):next L = ((j:Int),x.gen + 1):=by
 have hj:j < L.length:=(qM hx);unfold next;rw [nextFrom_drop L 0 j (by omega) h,List.drop_eq_getElem_cons hj];have e:L[j] = x:=(List.getElem?_eq_some_iff.1 hx).2;rw [e];simp only [nextFrom];rw [if_pos hf];simp
theorem next_none {L:List Ino} (h:∀ i x,i < L.length->L[i]? = some x->¬ (x.kind = 0/\x.gen < 1099511627776)):next L = ((L.length:Int),1):=by
 unfold next;rw [nextFrom_drop L 0 L.length (Nat.le_refl _) h];simp [nextFrom]
theorem nextFrom_cases:∀ (L:List Ino) (k:Nat),(∃ (j:Nat) (x:Ino),L[j]? = some x/\x.kind = 0/\x.gen < 1099511627776/\nextFrom k L = (((k + j:Nat):Int),x.gen + 1))∨nextFrom k L = (((k + L.length:Nat):Int),1)
 | [],k=>.inr (by simp [nextFrom])
 | y :: l, k => by
  unfold nextFrom;split
  ·rename_i h
   exact .inl ⟨0,y,rfl,h.1,h.2,by simp⟩
  ·rcases nextFrom_cases l (k + 1) with ⟨j,x,hx,h1,h2,h3⟩ | h
   ·exact .inl ⟨j + 1,x,by simpa using hx,h1,h2,by rw [h3,show k + 1 + j = k + (j + 1) from by omega]⟩
   ·exact .inr (by rw [h,List.length_cons,show k + 1 + l.length = k + (l.length + 1) from by omega])
theorem next_cases (L:List Ino):(∃ (j:Nat) (x:Ino),L[j]? = some x/\x.kind = 0/\x.gen < 1099511627776/\next L = ((j:Int),x.gen + 1))∨next L = ((L.length:Int),1):=by
 have:=nextFrom_cases L 0;unfold next;simpa using this
theorem next_bd (L:List Ino):0<=(next L).1/\(next L).1<=L.length:=by
 rcases next_cases L with ⟨j,x,hx,_,_,h⟩ | h
 ·have:j < L.length:=(qM hx);rw [h];exact ⟨by omega,by omega⟩
 ·rw [h];exact ⟨by omega,by omega⟩
theorem put_length (L:List Ino) (no:Nat) (x:Ino):(put L no x).length = max L.length (if no < L.length then 0 else L.length + 1):=by
 unfold put;split <;> simp
end It
open It
def EE:Enc (ByteArray × Int × Int × Int):=⟨4,fun x=>[.string x.1,.int .i64 x.2.1,.int .i64 x.2.2.1,.int .i64 x.2.2.2],fun _=>rfl,fun x u hu=>by
 simp at hu;rcases hu with rfl | rfl | rfl | rfl <;> rfl⟩
def EH:Enc (Int × Int):=⟨2,fun x=>[.int .i64 x.1,.int .i64 x.2],fun _=>rfl,fun x u hu=>by
 simp at hu;rcases hu with rfl | rfl <;> rfl⟩
def EI:Enc Rw:=⟨8,fun x=>[.int .i64 x.i.gen,.int .i64 x.i.kind,.int .i64 x.i.links,.int .i64 x.i.size,.int .i64 x.i.stamp,.slice x.rp x.rn x.rc,.slice x.ep x.en x.ec,.int .i64 x.i.next],fun _=>rfl,fun x u hu=>by
 simp at hu;rcases hu with rfl | rfl | rfl | rfl | rfl | rfl | rfl | rfl <;> rfl⟩
abbrev VI (x:Rw):Value:=.agg #[.int .i64 x.i.gen,.int .i64 x.i.kind,.int .i64 x.i.links,.int .i64 x.i.size,.int .i64 x.i.stamp,.slice x.rp x.rn x.rc,.slice x.ep x.en x.ec,.int .i64 x.i.next]
def okI (x:Ino):Prop:=okFields x.runs/\x.runs.length<=5864062014805/\x.ents.length<=3518437208883
def Good (S:Nat->Prop) (w:World) (x:Rw):Prop:=At ER S w (.slice x.rp x.rn x.rc) x.i.runs/\At EE S w (.slice x.ep x.en x.ec) x.i.ents/\okI x.i
def TabAt (S:Nat->Prop) (w:World) (v:Value) (L:List Rw):Prop:=At EI S w v L/\∀ x∈L,Good S w x
abbrev TabW (w:World) (v:Value) (L:List Rw):Prop:=TabAt (fun _=>True) w v L
abbrev GoodW (w:World) (x:Rw):Prop:=Good (fun _=>True) w x
theorem Good.up {S:Nat->Prop} {w w':World} {x:Rw} (h:Good S w x) (hb:Bw w w'):Good S w' x:=⟨h.1.up hb,h.2.1.up hb,h.2.2⟩
theorem TabAt.up {S:Nat->Prop} {w w':World} {v:Value} {L:List Rw} (h:TabAt S w v L) (hb:Bw w w'):TabAt S w' v L:=⟨h.1.up hb,fun x hx=>(h.2 x hx).up hb⟩
theorem Good.len {S:Nat->Prop} {w:World} {x:Rw} (h:Good S w x):x.rn = x.i.runs.length/\x.en = x.i.ents.length:=by
 obtain ⟨_,_,h1,_⟩:=h.1.open;obtain ⟨_,_,h2,_⟩:=h.2.1.open;simp only [Value.slice.injEq] at h1 h2;exact ⟨h1.2.1,h2.2.1⟩
def eight (w:World) (b o:Nat) (x:Rw):Prop :=
 w.cell? ⟨b,o,none⟩ = some (.int .i64 x.i.gen)/\w.cell? ⟨b,o + 1,none⟩ = some (.int .i64 x.i.kind)/\w.cell? ⟨b,o + 2,none⟩ = some (.int .i64 x.i.links)/\w.cell? ⟨b,o + 3,none⟩ = some (.int .i64 x.i.size) /\
 w.cell? ⟨b,o + 4,none⟩ = some (.int .i64 x.i.stamp)/\w.cell? ⟨b,o + 5,none⟩ = some (.slice x.rp x.rn x.rc)/\w.cell? ⟨b,o + 6,none⟩ = some (.slice x.ep x.en x.ec)/\w.cell? ⟨b,o + 7,none⟩ = some (.int .i64 x.i.next)
theorem eight.below {w w':World} {b o B:Nat} {x:Rw} (h:eight w b o x) (hb:Below B w w') (hB:b < B):eight w' b o x:=by
 obtain ⟨h0,h1,h2,h3,h4,h5,h6,h7⟩:=h;exact ⟨(hb.cell (p:=⟨b,o,none⟩) hB).trans h0,(hb.cell (p:=⟨b,o + 1,none⟩) hB).trans h1,(hb.cell (p:=⟨b,o + 2,none⟩) hB).trans h2,(hb.cell (p:=⟨b,o + 3,none⟩) hB).trans h3,
  (hb.cell (p:=⟨b,o + 4,none⟩) hB).trans h4,(hb.cell (p:=⟨b,o + 5,none⟩) hB).trans h5,(hb.cell (p:=⟨b,o + 6,none⟩) hB).trans h6,(hb.cell (p:=⟨b,o + 7,none⟩) hB).trans h7⟩
theorem TabAt.open {S:Nat->Prop} {w:World} {v:Value} {L:List Rw} (h:TabAt S w v L):∃ ao cap,v = .slice ao L.length cap/\L.length<=maxLen /\
  ∀ i x,L[i]? = some x->(∃ b off,ao = some ⟨b,off,none⟩/\b < w.heap.size/\eight w b (off + i * 8) x)/\Good S w x:=by
 obtain ⟨ao,cap,hv,hm,hx⟩:=h.1.open;refine ⟨ao,cap,hv,hm,fun i x hi=>⟨?_,h.2 x (List.mem_of_getElem? hi)⟩⟩;obtain ⟨b,off,ha,_,hb,hc⟩:=hx i x hi;refine ⟨b,off,ha,hb,?_⟩;have c:∀ k u,(EI.cells x)[k]? = some u->w.cell? ⟨b,off + i * 8 + k,none⟩ = some u:=fun k u hu=>by
  rw [Nat.add_assoc];exact hc k u hu
 exact ⟨c 0 _ rfl,c 1 _ rfl,c 2 _ rfl,c 3 _ rfl,c 4 _ rfl,c 5 _ rfl,c 6 _ rfl,c 7 _ rfl⟩
end
section
open Go.ChangeShapes Go.WideShapes Go.ChangeAt Go.RowKit Go.Deep It
/-- A slice that came in, element by element. -/
theorem open_row {α : Type} [Inhabited α] (E : Enc α) {H : Type} {enc : TypeId × Value → H} {P : Program} {w : World} {t e : TypeId} {fuel : Nat} {v : Value} {dx : DataW H × List MemPlace} (ht : P.underlying t = some (.slice e)) (ce : P.cellsOf e = E.sz) (hsz : 0 < E.sz) {Q : α → DataW H → Prop}
    (elem:∀ n cs d pl,cs.length = E.sz->DataW.trod enc P w 0 (fun _=>true) true n e cs = some (d,pl)->∃ x,cs = E.cells x/\Q x d)
    (hf:DataW.trod enc P w 0 (fun _=>true) true fuel t [v] = some dx) :
    ∃ l:List α,AtW E w v l/\((dx.1 = .nil/\l = [])∨∃ es sp:List (DataW H),dx.1 = .slice es sp/\es.length = l.length/\∀ (i:Nat) (x:α),l[i]? = some x->∃ d,es[i]? = some d/\Q x d):=by
  rcases open_slice ht hf with ⟨hcs,hx⟩ | ⟨a,len,cap,m,n,D,Pl,hcs,hb,hl,hm,hmm,hd,hx⟩
  · simp at hcs
    subst hcs;exact ⟨[],.inl ⟨_,_,rfl,rfl⟩,.inl ⟨by rw [hx],rfl⟩⟩
  · simp at hcs
    subst hcs;have hlm:len<=m:=by rw [hmm];split <;> omega
    have each:∀ i,i < len->∃ x:α,(∀ j u,(E.cells x)[j]? = some u->w.cell? ((a.add (i * E.sz)).add j) = some u)/\Q x (D i):=by
      intro i hi;obtain ⟨cs',h1,h2⟩:=hx i (by omega);rw [ce] at h1;obtain ⟨_,hlen,hcell⟩:=World.cells?_some h1;obtain ⟨x,rfl,hq⟩:=elem _ _ _ _ hlen h2;refine ⟨x,fun j u hj=>?_,hq⟩;have hj8:j < E.sz:=by have:=(List.getElem?_eq_some_iff.1 hj).1;rwa [E.len] at this
      have:=hcell j hj8;rw [this];exact hj
    obtain ⟨q,hq⟩:=choose_lt each;have hlr:((List.range len).map q).length = len:=by simp
    refine ⟨(List.range len).map q,?_,.inr ⟨_,_,by rw [hd],by simp,fun i x hi=>?_⟩⟩
    · by_cases hp : 0 < len
      · obtain ⟨b, off, spot⟩ := a
        obtain ⟨u0,hu0⟩:∃ u,(E.cells (q 0))[0]? = some u:=⟨_,List.getElem?_eq_getElem (by rw [E.len];exact hsz)⟩;have hc0:=(hq 0 hp).1 0 u0 hu0;have hspot:spot = none:=by simpa [Addr.add] using World.cell?_spot hc0
        subst hspot;rw [WideShapes.add_plain,WideShapes.add_plain] at hc0;have key:∀ i,i < len->∀ j u,(E.cells (q i))[j]? = some u->w.cell? ⟨b,off + (i * E.sz + j),none⟩ = some u:=fun i hi j u hj=>by
          have h0:=(hq i hi).1 j u hj;rw [WideShapes.add_plain,WideShapes.add_plain,Nat.add_assoc] at h0;exact h0
        refine .inr ⟨b,off,cap,by rw [hlr],trivial,World.block_lt_of_cell? _ _ hc0,by omega,by omega,hm,fun j u hj=>?_⟩;have hlt:j < (E.flat ((List.range len).map q)).length:=(List.getElem?_eq_some_iff.1 hj).1;rw [E.flat_length,hlr] at hlt;have hi:j / E.sz < len:=(Nat.div_lt_iff_lt_mul hsz).2 hlt;have hgi:((List.range len).map q)[j / E.sz]? = some (q (j / E.sz)):=by simp [hi]
        have hmod:j % E.sz < E.sz:=Nat.mod_lt _ hsz;obtain ⟨u1,hu1⟩:∃ u,(E.cells (q (j / E.sz)))[j % E.sz]? = some u:=⟨_,List.getElem?_eq_getElem (by rw [E.len];exact hmod)⟩;have hfl:=E.flat_at _ _ _ hgi _ _ hu1;have hdm:j / E.sz * E.sz + j % E.sz = j:=by rw [Nat.mul_comm];exact Nat.div_add_mod _ _
        have h3:=key _ hi _ _ hu1;rw [hdm] at hfl h3;rw [hfl] at hj
        cases hj
        exact h3
      · have : len = 0 := by omega
        subst this;exact .inl ⟨_,_,rfl,rfl⟩
    · have hi' : i < len := by have := (List.getElem?_eq_some_iff.1 hi).1; rwa [hlr] at this
      have hxq:x = q i:=by simpa [hi'] using hi.symm
      subst hxq;exact ⟨D i,by simp [hi'],(hq i hi').2⟩
def len2 {H:Type} (y:DataW H) (n:Nat):Prop:=n = 0∨∃ es sp,y = .slice es sp/\es.length = n
theorem within_any (lo x hi:Int) (w:World):Calls Tryz.prog 125 #[.int .i64 lo,.int .i64 x,.int .i64 hi] w fun e w'=>e = .returned (.bool (decide (lo<=x/\x<=hi)))/\w' = w:=by
 by_cases h1:lo<=x
 ·by_cases h2:x<=hi
  ·rw [decide_eq_true (show lo<=x/\x<=hi from ⟨h1,h2⟩)];go_enter Tryz.func125,Tryz.ntmps125;go_wp2;go_ret;exact ⟨rfl,rfl⟩
  ·rw [decide_eq_false (show ¬ (lo<=x/\x<=hi) from fun h=>h2 h.2)];go_enter Tryz.func125,Tryz.ntmps125;go_wp2;go_ret;exact ⟨rfl,rfl⟩
 ·rw [decide_eq_false (show ¬ (lo<=x/\x<=hi) from fun h=>h1 h.1)];go_enter Tryz.func125,Tryz.ntmps125;go_wp2;go_ret;exact ⟨rfl,rfl⟩
theorem within_yes (lo x hi:Int) (w:World) (h:lo<=x/\x<=hi):Calls Tryz.prog 125 #[.int .i64 lo,.int .i64 x,.int .i64 hi] w fun e w'=>e = .returned (.bool true)/\w' = w:=by
 have:=within_any lo x hi w
 rwa [decide_eq_true h] at this
theorem within_no (lo x hi:Int) (w:World) (h:¬ (lo<=x/\x<=hi)):Calls Tryz.prog 125 #[.int .i64 lo,.int .i64 x,.int .i64 hi] w fun e w'=>e = .returned (.bool false)/\w' = w:=by
 have:=within_any lo x hi w
 rwa [decide_eq_false h] at this
theorem isEmpty_len {β:Type} (l:List β) {n:Nat} (h:n = l.length):l.isEmpty = decide (n = 0):=by
 subst h
 cases l <;> simp
theorem right_gen (g k l s t nx:Int) (rp ep:Option Addr) (rn rc en ec:Nat) (w:World) (hg:¬ (1<=g/\g<=1099511627776)) :
  Calls Tryz.prog 126 #[.agg #[.int .i64 g,.int .i64 k,.int .i64 l,.int .i64 s,.int .i64 t,.slice rp rn rc,.slice ep en ec,.int .i64 nx]] w fun e w'=>e = .returned (.bool false)/\Bw w w':=by
 have HG:Hid _:=hg;clear hg;go_enter Tryz.func126,Tryz.ntmps126;go_wp2_with fail;refine (within_no _ _ _ _ HG.out).mono ?_;rintro e w' ⟨rfl,rfl⟩;go_wp2;go_ret;exact ⟨rfl,qG _ _⟩
theorem right_attr (g k l s t nx:Int) (rp ep:Option Addr) (rn rc en ec:Nat) (w:World) (hg:1<=g/\g<=1099511627776) (ha:At.right k l s t = false) :
  Calls Tryz.prog 126 #[.agg #[.int .i64 g,.int .i64 k,.int .i64 l,.int .i64 s,.int .i64 t,.slice rp rn rc,.slice ep en ec,.int .i64 nx]] w fun e w'=>e = .returned (.bool false)/\Bw w w':=by
 have HG:Hid _:=hg;have HA:Hid _:=ha;clear hg ha;go_enter Tryz.func126,Tryz.ntmps126;go_wp2_with fail;refine (within_yes _ _ _ _ HG.out).mono ?_;rintro e w' ⟨rfl,rfl⟩;go_wp2_with fail;refine (acheck_no _ _ _ _ _ HA.out).mono ?_;rintro e w' ⟨rfl,rfl⟩;go_wp2;go_ret;exact ⟨rfl,(qG _ _).alloc (by simp) _⟩
theorem right_dir (g l s t nx:Int) (rp ep:Option Addr) (rn rc en ec:Nat) (w:World) (hg:1<=g/\g<=1099511627776) (ha:At.right 2 l s t = true) :
  Calls Tryz.prog 126 #[.agg #[.int .i64 g,.int .i64 2,.int .i64 l,.int .i64 s,.int .i64 t,.slice rp rn rc,.slice ep en ec,.int .i64 nx]] w fun e w'=>e = .returned (.bool (decide (rn = 0)))/\Bw w w':=by
 have HG:Hid _:=hg;have HA:Hid _:=ha;clear hg ha
 by_cases he:en = 0
 ·have he':((en:Int) == 0) = true:=by simp [he]
  by_cases hn:nx = 0
  ·have hn':(nx == 0) = true:=by simp [hn]
   clear he hn
   by_cases hr:rn = 0
   ·have hr':((rn:Int) == 0) = true:=by simp [hr]
    rw [decide_eq_true hr];clear hr;go_enter Tryz.func126,Tryz.ntmps126;go_wp2_with fail;refine (within_yes _ _ _ _ HG.out).mono ?_;rintro e w' ⟨rfl,rfl⟩;go_wp2_with fail;refine (acheck_yes _ _ _ _ _ HA.out).mono ?_;rintro e w' ⟨rfl,rfl⟩;go_wp2;go_ret;exact ⟨rfl,(qG _ _).alloc (by simp) _⟩
   ·have hr':((rn:Int) == 0) = false:=by simp;omega
    rw [decide_eq_false hr];clear hr;go_enter Tryz.func126,Tryz.ntmps126;go_wp2_with fail;refine (within_yes _ _ _ _ HG.out).mono ?_;rintro e w' ⟨rfl,rfl⟩;go_wp2_with fail;refine (acheck_yes _ _ _ _ _ HA.out).mono ?_;rintro e w' ⟨rfl,rfl⟩;go_wp2;go_ret;exact ⟨rfl,(qG _ _).alloc (by simp) _⟩
  ·have hn':(nx == 0) = false:=by simp [hn]
   clear he hn
   by_cases hr:rn = 0
   ·have hr':((rn:Int) == 0) = true:=by simp [hr]
    rw [decide_eq_true hr];clear hr;go_enter Tryz.func126,Tryz.ntmps126;go_wp2_with fail;refine (within_yes _ _ _ _ HG.out).mono ?_;rintro e w' ⟨rfl,rfl⟩;go_wp2_with fail;refine (acheck_yes _ _ _ _ _ HA.out).mono ?_;rintro e w' ⟨rfl,rfl⟩;go_wp2;go_ret;exact ⟨rfl,(qG _ _).alloc (by simp) _⟩
   ·have hr':((rn:Int) == 0) = false:=by simp;omega
    rw [decide_eq_false hr];clear hr;go_enter Tryz.func126,Tryz.ntmps126;go_wp2_with fail;refine (within_yes _ _ _ _ HG.out).mono ?_;rintro e w' ⟨rfl,rfl⟩;go_wp2_with fail;refine (acheck_yes _ _ _ _ _ HA.out).mono ?_;rintro e w' ⟨rfl,rfl⟩;go_wp2;go_ret;exact ⟨rfl,(qG _ _).alloc (by simp) _⟩
 ·have he':((en:Int) == 0) = false:=by simp;omega
  clear he
  by_cases hr:rn = 0
  ·have hr':((rn:Int) == 0) = true:=by simp [hr]
   rw [decide_eq_true hr];clear hr;go_enter Tryz.func126,Tryz.ntmps126;go_wp2_with fail;refine (within_yes _ _ _ _ HG.out).mono ?_;rintro e w' ⟨rfl,rfl⟩;go_wp2_with fail;refine (acheck_yes _ _ _ _ _ HA.out).mono ?_;rintro e w' ⟨rfl,rfl⟩;go_wp2;go_ret;exact ⟨rfl,(qG _ _).alloc (by simp) _⟩
  ·have hr':((rn:Int) == 0) = false:=by simp;omega
   rw [decide_eq_false hr];clear hr;go_enter Tryz.func126,Tryz.ntmps126;go_wp2_with fail;refine (within_yes _ _ _ _ HG.out).mono ?_;rintro e w' ⟨rfl,rfl⟩;go_wp2_with fail;refine (acheck_yes _ _ _ _ _ HA.out).mono ?_;rintro e w' ⟨rfl,rfl⟩;go_wp2;go_ret;exact ⟨rfl,(qG _ _).alloc (by simp) _⟩
theorem right_free (g l s t nx:Int) (rp ep:Option Addr) (rn rc en ec:Nat) (w:World) (hg:1<=g/\g<=1099511627776) (ha:At.right 0 l s t = true) :
  Calls Tryz.prog 126 #[.agg #[.int .i64 g,.int .i64 0,.int .i64 l,.int .i64 s,.int .i64 t,.slice rp rn rc,.slice ep en ec,.int .i64 nx]] w fun e w'=>e = .returned (.bool (decide (en = 0) && decide (nx = 0) && decide (rn = 0)))/\Bw w w':=by
 have HG:Hid _:=hg;have HA:Hid _:=ha;clear hg ha
 by_cases he:en = 0
 ·have he':((en:Int) == 0) = true:=by simp [he]
  by_cases hn:nx = 0
  ·have hn':(nx == 0) = true:=by simp [hn]
   rw [decide_eq_true he,decide_eq_true hn];clear he hn;simp only [Bool.and_self,Bool.true_and]
   by_cases hr:rn = 0
   ·have hr':((rn:Int) == 0) = true:=by simp [hr]
    rw [decide_eq_true hr];clear hr;go_enter Tryz.func126,Tryz.ntmps126;go_wp2_with fail;refine (within_yes _ _ _ _ HG.out).mono ?_;rintro e w' ⟨rfl,rfl⟩;go_wp2_with fail;refine (acheck_yes _ _ _ _ _ HA.out).mono ?_;rintro e w' ⟨rfl,rfl⟩;go_wp2;go_ret;exact ⟨rfl,(qG _ _).alloc (by simp) _⟩
   ·have hr':((rn:Int) == 0) = false:=by simp;omega
    rw [decide_eq_false hr];clear hr;go_enter Tryz.func126,Tryz.ntmps126;go_wp2_with fail;refine (within_yes _ _ _ _ HG.out).mono ?_;rintro e w' ⟨rfl,rfl⟩;go_wp2_with fail;refine (acheck_yes _ _ _ _ _ HA.out).mono ?_;rintro e w' ⟨rfl,rfl⟩;go_wp2;go_ret;exact ⟨rfl,(qG _ _).alloc (by simp) _⟩
  ·have hn':(nx == 0) = false:=by simp [hn]
   rw [decide_eq_false hn];clear he hn;simp only [Bool.and_false,Bool.false_and];go_enter Tryz.func126,Tryz.ntmps126;go_wp2_with fail;refine (within_yes _ _ _ _ HG.out).mono ?_;rintro e w' ⟨rfl,rfl⟩;go_wp2_with fail;refine (acheck_yes _ _ _ _ _ HA.out).mono ?_;rintro e w' ⟨rfl,rfl⟩;go_wp2;go_ret;exact ⟨rfl,(qG _ _).alloc (by simp) _⟩
 ·have he':((en:Int) == 0) = false:=by simp;omega
  rw [decide_eq_false he];clear he;simp only [Bool.false_and];go_enter Tryz.func126,Tryz.ntmps126;go_wp2_with fail;refine (within_yes _ _ _ _ HG.out).mono ?_;rintro e w' ⟨rfl,rfl⟩;go_wp2_with fail;refine (acheck_yes _ _ _ _ _ HA.out).mono ?_;rintro e w' ⟨rfl,rfl⟩;go_wp2;go_ret;exact ⟨rfl,(qG _ _).alloc (by simp) _⟩
theorem right_fileno (g l s t nx:Int) (rp ep:Option Addr) (rn rc en ec:Nat) (w:World) (hg:1<=g/\g<=1099511627776) (ha:At.right 1 l s t = true) (hb:¬ (en = 0/\nx = 0)) :
  Calls Tryz.prog 126 #[.agg #[.int .i64 g,.int .i64 1,.int .i64 l,.int .i64 s,.int .i64 t,.slice rp rn rc,.slice ep en ec,.int .i64 nx]] w fun e w'=>e = .returned (.bool false)/\Bw w w':=by
 have HG:Hid _:=hg;have HA:Hid _:=ha;clear hg ha
 by_cases he:en = 0
 ·have he':((en:Int) == 0) = true:=by simp [he]
  have hn':(nx == 0) = false:=by
   rw [beq_eq_false_iff_ne];intro h;exact hb ⟨he,h⟩
  clear he hb;go_enter Tryz.func126,Tryz.ntmps126;go_wp2_with fail;refine (within_yes _ _ _ _ HG.out).mono ?_;rintro e w' ⟨rfl,rfl⟩;go_wp2_with fail;refine (acheck_yes _ _ _ _ _ HA.out).mono ?_;rintro e w' ⟨rfl,rfl⟩;go_wp2
  go_quiet (fail)
  go_wp2;go_ret;exact ⟨rfl,Go.below_drewN ((qG _ _).alloc (by simp) _) _⟩
 ·have he':((en:Int) == 0) = false:=by simp;omega
  clear he hb;go_enter Tryz.func126,Tryz.ntmps126;go_wp2_with fail;refine (within_yes _ _ _ _ HG.out).mono ?_;rintro e w' ⟨rfl,rfl⟩;go_wp2_with fail;refine (acheck_yes _ _ _ _ _ HA.out).mono ?_;rintro e w' ⟨rfl,rfl⟩;go_wp2
  go_quiet (fail)
  go_wp2;go_ret;exact ⟨rfl,Go.below_drewN ((qG _ _).alloc (by simp) _) _⟩
theorem right_filebad (g l s t nx:Int) (rp ep:Option Addr) (rn rc en ec:Nat) (w:World) (hg:1<=g/\g<=1099511627776) (ha:At.right 1 l s t = true) (hb:en = 0/\nx = 0) (rs:List (Int × ByteArray)) (hr:AtW ER w (.slice rp rn rc) rs) (ho:okFields rs) (hq:¬ Bl.right (-1) rs) :
  Calls Tryz.prog 126 #[.agg #[.int .i64 g,.int .i64 1,.int .i64 l,.int .i64 s,.int .i64 t,.slice rp rn rc,.slice ep en ec,.int .i64 nx]] w fun e w'=>e = .returned (.bool false)/\Bw w w':=by
 have HG:Hid _:=hg;have HA:Hid _:=ha;clear hg ha;have hn':(nx == 0) = true:=by simp [hb.2]
 have he':((en:Int) == 0) = true:=by simp [hb.1]
 have hw:Bw w ((w.alloc (.cells #[.int .i64 g,.int .i64 1,.int .i64 l,.int .i64 s,.int .i64 t,.slice rp rn rc,.slice ep en ec,.int .i64 nx] 58)).alloc (BA 1 l s t)):=(qG _ _).alloc (by simp) _;have HC:Hid (∀ W,((w.alloc (.cells #[.int .i64 g,.int .i64 1,.int .i64 l,.int .i64 s,.int .i64 t,.slice rp rn rc,.slice ep en ec,.int .i64 nx] 58)).alloc (BA 1 l s t)).grownBy W none->Calls Tryz.prog 146 #[.slice rp rn rc] W fun e w'=>e = .returned (.int .i64 (80))/\Bw W w'):=fun W hW=>by
  have:=bcheck_any _ rs W ((hr.up hw).up (below_none hW (Nat.le_refl _))).fields ho
  rwa [show Bl.err rs = 80 from by unfold Bl.err;rw [if_neg hq]] at this
 have hc5:∀ p:Grw ((w.alloc (.cells #[.int .i64 g,.int .i64 1,.int .i64 l,.int .i64 s,.int .i64 t,.slice rp rn rc,.slice ep en ec,.int .i64 nx] 58)).alloc (BA 1 l s t)),p.out.cell? ⟨w.heap.size,5,none⟩ = some (.slice rp rn rc):=fun p=>p.grown.cell (by simp) (by simp)
 have hc3:∀ p:Grw ((w.alloc (.cells #[.int .i64 g,.int .i64 1,.int .i64 l,.int .i64 s,.int .i64 t,.slice rp rn rc,.slice ep en ec,.int .i64 nx] 58)).alloc (BA 1 l s t)),p.out.cell? ⟨w.heap.size,3,none⟩ = some (.int .i64 s):=fun p=>p.grown.cell (by simp) (by simp)
 have hne9:Nonempty (Grw ((w.alloc (.cells #[.int .i64 g,.int .i64 1,.int .i64 l,.int .i64 s,.int .i64 t,.slice rp rn rc,.slice ep en ec,.int .i64 nx] 58)).alloc (BA 1 l s t))):=grw_some _;have HW:Hid _:=hw;clear hr ho hb hq hw;go_enter Tryz.func126,Tryz.ntmps126;go_wp2_with fail;refine (within_yes _ _ _ _ HG.out).mono ?_;rintro e w' ⟨rfl,rfl⟩;go_wp2_with fail;refine (acheck_yes _ _ _ _ _ HA.out).mono ?_;rintro e w' ⟨rfl,rfl⟩;go_wp2;refine wp_region_grw (by kernel_rfl) (by kernel_rfl) ?_
 repeat (go_big_quiet_step (first | (go_at_call 146;refine calls_grw (Grw.grown _) (HC.out _ (Grw.grown _)))))
 rintro w9 ⟨p9,rfl⟩;have HB:=qJ HW p9.below;go_wp2;go_ret;exact ⟨rfl,HB.out⟩
theorem right_file (g l s t nx:Int) (rp ep:Option Addr) (rn rc en ec:Nat) (w:World) (hg:1<=g/\g<=1099511627776) (ha:At.right 1 l s t = true) (hb:en = 0/\nx = 0) (rs:List (Int × ByteArray)) (hr:AtW ER w (.slice rp rn rc) rs) (ho:okFields rs) (hq:Bl.right (-1) rs) :
  Calls Tryz.prog 126 #[.agg #[.int .i64 g,.int .i64 1,.int .i64 l,.int .i64 s,.int .i64 t,.slice rp rn rc,.slice ep en ec,.int .i64 nx]] w fun e w'=>e = .returned (.bool (decide (Bl.endOf rs<=s)))/\Bw w w':=by
 have HG:Hid _:=hg;have HA:Hid _:=ha;clear hg ha;have hn':(nx == 0) = true:=by simp [hb.2]
 have he':((en:Int) == 0) = true:=by simp [hb.1]
 have hw:Bw w ((w.alloc (.cells #[.int .i64 g,.int .i64 1,.int .i64 l,.int .i64 s,.int .i64 t,.slice rp rn rc,.slice ep en ec,.int .i64 nx] 58)).alloc (BA 1 l s t)):=(qG _ _).alloc (by simp) _;have HC:Hid (∀ W,((w.alloc (.cells #[.int .i64 g,.int .i64 1,.int .i64 l,.int .i64 s,.int .i64 t,.slice rp rn rc,.slice ep en ec,.int .i64 nx] 58)).alloc (BA 1 l s t)).grownBy W none->Calls Tryz.prog 146 #[.slice rp rn rc] W fun e w'=>e = .returned (.int .i64 (0))/\Bw W w'):=fun W hW=>by
  have:=bcheck_any _ rs W ((hr.up hw).up (below_none hW (Nat.le_refl _))).fields ho
  rwa [show Bl.err rs = 0 from by unfold Bl.err;rw [if_pos hq]] at this
 have HE:Hid (∀ W,((w.alloc (.cells #[.int .i64 g,.int .i64 1,.int .i64 l,.int .i64 s,.int .i64 t,.slice rp rn rc,.slice ep en ec,.int .i64 nx] 58)).alloc (BA 1 l s t)).grownBy W none->Calls Tryz.prog 100 #[.slice rp rn rc] W fun e w'=>e = .returned (.int .i64 (Bl.endOf rs))/\Bw W w'):=fun W hW=>End_any _ rs W ((hr.up hw).up (below_none hW (Nat.le_refl _))).fields ho
 have hc5:∀ p:Grw ((w.alloc (.cells #[.int .i64 g,.int .i64 1,.int .i64 l,.int .i64 s,.int .i64 t,.slice rp rn rc,.slice ep en ec,.int .i64 nx] 58)).alloc (BA 1 l s t)),p.out.cell? ⟨w.heap.size,5,none⟩ = some (.slice rp rn rc):=fun p=>p.grown.cell (by simp) (by simp)
 have hc3:∀ p:Grw ((w.alloc (.cells #[.int .i64 g,.int .i64 1,.int .i64 l,.int .i64 s,.int .i64 t,.slice rp rn rc,.slice ep en ec,.int .i64 nx] 58)).alloc (BA 1 l s t)),p.out.cell? ⟨w.heap.size,3,none⟩ = some (.int .i64 s):=fun p=>p.grown.cell (by simp) (by simp)
 have hne9:Nonempty (Grw ((w.alloc (.cells #[.int .i64 g,.int .i64 1,.int .i64 l,.int .i64 s,.int .i64 t,.slice rp rn rc,.slice ep en ec,.int .i64 nx] 58)).alloc (BA 1 l s t))):=grw_some _;have HW:Hid _:=hw;clear hr ho hb hq hw;obtain ⟨en9,hen⟩:=qE (Bl.endOf rs);rw [hen] at HE ⊢;clear hen;go_enter Tryz.func126,Tryz.ntmps126;go_wp2_with fail;refine (within_yes _ _ _ _ HG.out).mono ?_;rintro e w' ⟨rfl,rfl⟩;go_wp2_with fail;refine (acheck_yes _ _ _ _ _ HA.out).mono ?_;rintro e w' ⟨rfl,rfl⟩;go_wp2;refine wp_region_grw (by kernel_rfl) (by kernel_rfl) ?_
 repeat (go_big_quiet_step (first | (go_at_call 146;refine calls_grw (Grw.grown _) (HC.out _ (Grw.grown _))) | (go_at_call 100;refine calls_grw (Grw.grown _) (HE.out _ (Grw.grown _)))))
 rintro w9 ⟨p9,rfl⟩;have HB:=qJ HW p9.below;go_wp2;go_ret;exact ⟨rfl,HB.out⟩
theorem right_any {S:Nat->Prop} (x:Rw) (w:World) (h:Good S w x):Calls Tryz.prog 126 #[VI x] w fun e w'=>e = .returned (.bool (one x.i))/\Bw w w':=by
 obtain ⟨hrn,hen⟩:=h.len;obtain ⟨hr,_,ho,_⟩:=h;obtain ⟨⟨g,k,l,s,t,rs,es,nx⟩,rp,rn,rc,ep,en,ec⟩:=x;simp only at hrn hen hr ho ⊢
 by_cases hg:1<=g/\g<=1099511627776
 ·cases ha:At.right k l s t with
  | false =>
   rw [one_attr ha];exact right_attr g k l s t nx rp ep rn rc en ec w hg ha
  | true =>
   rcases kind_bd ha with rfl | rfl | rfl
   ·rw [one_free hg ha,isEmpty_len es hen,isEmpty_len rs hrn];exact right_free g l s t nx rp ep rn rc en ec w hg ha
   ·rw [one_file hg ha,isEmpty_len es hen]
    by_cases hb:en = 0/\nx = 0
    ·rw [decide_eq_true hb.1,decide_eq_true hb.2]
     by_cases hq:Bl.right (-1) rs
     ·rw [decide_eq_true hq];exact right_file g l s t nx rp ep rn rc en ec w hg ha hb rs hr.wide ho hq
     ·rw [decide_eq_false hq];exact right_filebad g l s t nx rp ep rn rc en ec w hg ha hb rs hr.wide ho hq
    ·rw [show (decide (en = 0) && decide (nx = 0)) = false from by simpa using hb];exact right_fileno g l s t nx rp ep rn rc en ec w hg ha hb
   ·rw [one_dir hg ha,isEmpty_len rs hrn];exact right_dir g l s t nx rp ep rn rc en ec w hg ha
 ·rw [one_gen hg];exact right_gen g k l s t nx rp ep rn rc en ec w hg
end
end Go.Proofs.YtneojimodomohaaGreat
