/- Tab, Right, Used, as one. -/
import Derived.Test.YtggoccfddnpelaaGreatR1
namespace Go.Proofs.YtggoccfddnpelaaGreat
open Go.RowKit
set_option maxRecDepth 100000
/-- Any world grown from w. -/
structure Grw (w:World) where
  out:World
  grown:w.grownBy out none
theorem grw_some (w:World):Nonempty (Grw w):=⟨⟨w,grown_refl _ _⟩⟩
/-- A region that only reads, and whose callees read and lay blocks of their own, walked once. -/
theorem wp_region_grw {P:Program} {id:Nat} {Q:Exit->Act->World->Prop} {a:Act} {w:World} {l:List Oper} (hm:P.follows .mixedOrders = true) (hB:Region.lexB .any l.toArray = true)
    (h:wpQuiet P l.toArray (fun w'=>∃ p:Grw w,w' = p.out) (fun a'=>∀ w',(∃ p:Grw w,w' = p.out)->Q .normal a' w') l a):(Code.region id l.toArray true).wp P Q a w :=
  wp_region_quiet (C:=fun w'=>∃ p:Grw w,w' = p.out) hm hB ⟨⟨w.drew,⟨rfl,rfl,rfl,Nat.le_refl _,fun _ _ _=>rfl⟩⟩,rfl⟩ (by simpa using h)
theorem calls_grw {P:Program} {f:FuncId} {args:Array Value} {w W:World} {v:Value} (hg:w.grownBy W none)
    (h:Calls P f args W fun e w'=>e = .returned v/\Below W.heap.size W w'):Calls P f args W fun e w''=>e = .returned v/\∃ p:Grw w,w'' = p.out :=
  h.mono fun _ w' ⟨he,hw⟩=>⟨he,⟨w',grown_trans hg (grown_of_below hw none)⟩,rfl⟩
theorem Grw.below {w:World} (p:Grw w):Below w.heap.size w p.out:=below_none p.grown (Nat.le_refl _)
namespace It
/-- An inode. -/
structure Ino where
  gen:Int
  kind:Int
  links:Int
  size:Int
  stamp:Int
  runs:List (Int × ByteArray)
  ents:List (ByteArray × Int × Int × Int)
  next:Int
/-- An inode, and where its lists lie. -/
structure Rw where
  i:Ino
  rp:Option Addr
  rn:Nat
  rc:Nat
  ep:Option Addr
  en:Nat
  ec:Nat
def zeroI:Ino:=⟨0,0,0,0,0,[],[],0⟩
def zeroR:Rw:=⟨zeroI,none,0,0,none,0,0⟩
instance:Inhabited Ino:=⟨zeroI⟩
instance:Inhabited Rw:=⟨zeroR⟩
abbrev pl (L:List Rw):List Ino:=L.map Rw.i
def one (x:Ino):Bool:=decide (1<=x.gen/\x.gen<=1099511627776) && (At.right x.kind x.links x.size x.stamp && (if x.kind = 2 then x.runs.isEmpty else if x.kind = 1 then x.ents.isEmpty && decide (x.next = 0) && decide (Bl.right (-1) x.runs) && decide (Bl.endOf x.runs<=x.size) else x.ents.isEmpty && decide (x.next = 0) && x.runs.isEmpty))
def rootB:List Ino->Bool
  | []=>false
  | x :: _=>decide (x.kind = 2)
def right (L:List Ino):Bool:=decide (1<=L.length/\L.length<=24) && (rootB L && L.all one)
def names (L:List Ino) (no gen:Int):Bool:=decide (0<=no) && (match L[no.toNat]? with | some x=>decide (x.gen = gen/\x.kind≠0) | none=>false)
def usedFrom (k:Nat):List Ino->List (Int × Int)
  | []=>[]
  | x :: l=>if x.kind = 0 then usedFrom (k + 1) l else ((k:Int),x.gen) :: usedFrom (k + 1) l
def used (L:List Ino):List (Int × Int):=usedFrom 0 L
def nextFrom (k:Nat):List Ino->Int × Int
  | []=>((k:Int),1)
  | x :: l=>if x.kind = 0/\x.gen < 1099511627776 then ((k:Int),x.gen + 1) else nextFrom (k + 1) l
def next (L:List Ino):Int × Int:=nextFrom 0 L
def fresh (gen kind stamp:Int):Ino:=⟨gen,kind,1,0,stamp,[],[],0⟩
def put (L:List Ino) (no:Nat) (x:Ino):List Ino:=if no < L.length then L.set no x else L ++ [x]
def findErr (L:List Ino) (no gen:Int):Int:=if right L then (if names L no gen then 0 else 401) else 4
def argOk (kind stamp:Int):Bool:=decide (kind = 1∨kind = 2) && decide (0<=stamp/\stamp<=1099511627776)
def makeErr (L:List Ino) (kind stamp:Int):Int:=if right L then (if argOk kind stamp then (if (next L).1 = 24 then 407 else 0) else 1) else 4
def makeTab (L:List Ino) (kind stamp:Int):List Ino:=if makeErr L kind stamp = 0 then put L (next L).1.toNat (fresh (next L).2 kind stamp) else []
def makeH (L:List Ino) (kind stamp:Int):Int × Int:=if makeErr L kind stamp = 0 then next L else (0,0)
def putErr (L:List Ino) (no gen:Int) (x:Ino):Int:=if findErr L no gen = 0 then (if x.gen = gen/\x.kind≠0 then (if right (put L no.toNat x) then 0 else 4) else 1) else findErr L no gen
def putTab (L:List Ino) (no gen:Int) (x:Ino):List Ino:=if putErr L no gen x = 0 then put L no.toNat x else []
def gone (gen:Int):Ino:=⟨gen,0,0,0,0,[],[],0⟩
def dropErr (L:List Ino) (no gen:Int):Int:=if findErr L no gen = 0 then (if no = 0 then 1 else 0) else findErr L no gen
def dropTab (L:List Ino) (no gen:Int):List Ino:=if dropErr L no gen = 0 then put L no.toNat (gone gen) else []
def findI (L:List Ino) (no gen:Int):Ino:=if findErr L no gen = 0 then (L[no.toNat]?).getD zeroI else zeroI
def new:List Ino:=[fresh 1 2 0]
theorem one_gen {x:Ino} (h:¬ (1<=x.gen/\x.gen<=1099511627776)):one x = false:=by unfold one;rw [decide_eq_false h];rfl
theorem one_attr {x:Ino} (h:At.right x.kind x.links x.size x.stamp = false):one x = false:=by unfold one;rw [h];simp
theorem one_dir {g l s t nx:Int} {rs es} (hg:1<=g/\g<=1099511627776) (ha:At.right 2 l s t = true):one ⟨g,2,l,s,t,rs,es,nx⟩ = rs.isEmpty:=by
  unfold one
  simp only
  rw [decide_eq_true hg,ha]
  simp
theorem one_file {g l s t nx:Int} {rs es} (hg:1<=g/\g<=1099511627776) (ha:At.right 1 l s t = true):one ⟨g,1,l,s,t,rs,es,nx⟩ = (es.isEmpty && decide (nx = 0) && decide (Bl.right (-1) rs) && decide (Bl.endOf rs<=s)):=by
  unfold one
  simp only
  rw [decide_eq_true hg,ha]
  simp
theorem one_free {g l s t nx:Int} {rs es} (hg:1<=g/\g<=1099511627776) (ha:At.right 0 l s t = true):one ⟨g,0,l,s,t,rs,es,nx⟩ = (es.isEmpty && decide (nx = 0) && rs.isEmpty):=by
  unfold one
  simp only
  rw [decide_eq_true hg,ha]
  simp
theorem one_bd {x:Ino} (h:one x = true):1<=x.gen/\x.gen<=1099511627776:=by
  unfold one at h
  simp only [Bool.and_eq_true,decide_eq_true_eq] at h
  exact h.1
theorem kind_bd {k l s t:Int} (h:At.right k l s t = true):k = 0∨k = 1∨k = 2:=by
  rcases At.right_iff.1 h with h | ⟨_,_,h | h⟩
  · exact .inl h.1
  · exact .inr (.inl h.1)
  · exact .inr (.inr h.1)
theorem right_iff {L:List Ino}:right L = true ↔ (1<=L.length/\L.length<=24)/\rootB L = true/\∀ x∈L,one x = true:=by
  unfold right
  simp only [Bool.and_eq_true,decide_eq_true_eq,List.all_eq_true]
theorem mem_usedFrom {no gen : Int} : ∀ (L : List Ino) (k : Nat), (no, gen) ∈ usedFrom k L ↔ ∃ (i : Nat) (x : Ino), L[i]? = some x ∧ no = ((k + i : Nat) : Int) ∧ x.gen = gen ∧ x.kind ≠ 0
  | [],k=>by simp [usedFrom]
  | y :: l, k => by
    have ih:=mem_usedFrom (no:=no) (gen:=gen) l (k + 1)
    have shift:(∃ (i:Nat) (x:Ino),(y :: l)[i]? = some x/\no = ((k + i:Nat):Int)/\x.gen = gen/\x.kind≠0) ↔ (no = (k:Int)/\y.gen = gen/\y.kind≠0)∨∃ (i:Nat) (x:Ino),l[i]? = some x/\no = ((k + 1 + i:Nat):Int)/\x.gen = gen/\x.kind≠0:=by
      constructor
      · rintro ⟨i, x, hx, hn, hg, hk⟩
        match i,hx with
        | 0, hx =>
          simp at hx
          subst hx
          exact .inl ⟨by omega,hg,hk⟩
        | i + 1,hx=>exact .inr ⟨i,x,by simpa using hx,by omega,hg,hk⟩
      · rintro (⟨hn, hg, hk⟩ | ⟨i, x, hx, hn, hg, hk⟩)
        · exact ⟨0,y,rfl,by omega,hg,hk⟩
        · exact ⟨i + 1,x,by simpa using hx,by omega,hg,hk⟩
    rw [shift,← ih]
    show (no,gen)∈(if y.kind = 0 then usedFrom (k + 1) l else ((k:Int),y.gen) :: usedFrom (k + 1) l) ↔ _
    split
    · rename_i h0
      constructor
      · exact .inr
      · rintro (h | h)
        · exact absurd h0 h.2.2
        · exact h
    · rename_i h0
      rw [List.mem_cons,Prod.mk.injEq]
      constructor
      · rintro (⟨h1, h2⟩ | h)
        · exact .inl ⟨h1,h2.symm,h0⟩
        · exact .inr h
      · rintro (⟨h1, h2, _⟩ | h)
        · exact .inl ⟨h1,h2.symm⟩
        · exact .inr h
theorem names_iff {L:List Ino} {no gen:Int}:names L no gen = true ↔ ∃ (i:Nat) (x:Ino),L[i]? = some x/\no = (i:Int)/\x.gen = gen/\x.kind≠0:=by
  unfold names
  simp only [Bool.and_eq_true,decide_eq_true_eq]
  constructor
  · rintro ⟨h0, h⟩
    split at h
    · rename_i x hx
      simp at h
      exact ⟨no.toNat,x,hx,by omega,h.1,h.2⟩
    · cases h
  · rintro ⟨i, x, hx, rfl, hg, hk⟩
    refine ⟨by omega,?_⟩
    rw [show ((i:Int)).toNat = i from by omega,hx]
    simp [hg,hk]
theorem mem_used {L:List Ino} {no gen:Int}:(no,gen)∈used L ↔ names L no gen = true:=by
  unfold used
  rw [mem_usedFrom,names_iff]
  simp
theorem usedFrom_append:∀ (L:List Ino) (x:Ino) (k:Nat),usedFrom k (L ++ [x]) = usedFrom k L ++ (if x.kind = 0 then [] else [(((k + L.length:Nat):Int),x.gen)])
  | [],x,k=>by simp [usedFrom]
  | y :: l, x, k => by
    have:=usedFrom_append l x (k + 1)
    simp only [List.cons_append,usedFrom,this,List.length_cons]
    rw [show k + 1 + l.length = k + (l.length + 1) from by omega]
    split <;> simp
theorem take_succ {β:Type} {l:List β} {k:Nat} {x:β} (h:l[k]? = some x):l.take (k + 1) = l.take k ++ [x]:=by
  rw [List.take_add_one,h]
  rfl
theorem used_take_succ {L:List Ino} {k:Nat} {x:Ino} (h:L[k]? = some x):used (L.take (k + 1)) = used (L.take k) ++ (if x.kind = 0 then [] else [((k:Int),x.gen)]):=by
  have hk:k < L.length:=(List.getElem?_eq_some_iff.1 h).1
  unfold used
  rw [take_succ h,usedFrom_append]
  simp [Nat.min_eq_left (Nat.le_of_lt hk)]
theorem usedFrom_length:∀ (L:List Ino) (k:Nat),(usedFrom k L).length<=L.length
  | [],k=>by simp [usedFrom]
  | y :: l, k => by
    have:=usedFrom_length l (k + 1)
    unfold usedFrom
    split <;> simp <;> omega
theorem used_length (L:List Ino):(used L).length<=L.length:=usedFrom_length L 0
end It
open It
def EE:Enc (ByteArray × Int × Int × Int):=⟨4,fun x=>[.string x.1,.int .i64 x.2.1,.int .i64 x.2.2.1,.int .i64 x.2.2.2],fun _=>rfl,fun x u hu=>by
  simp at hu
  rcases hu with rfl | rfl | rfl | rfl <;> rfl⟩
def EH:Enc (Int × Int):=⟨2,fun x=>[.int .i64 x.1,.int .i64 x.2],fun _=>rfl,fun x u hu=>by
  simp at hu
  rcases hu with rfl | rfl <;> rfl⟩
def EI:Enc Rw:=⟨8,fun x=>[.int .i64 x.i.gen,.int .i64 x.i.kind,.int .i64 x.i.links,.int .i64 x.i.size,.int .i64 x.i.stamp,.slice x.rp x.rn x.rc,.slice x.ep x.en x.ec,.int .i64 x.i.next],fun _=>rfl,fun x u hu=>by
  simp at hu
  rcases hu with rfl | rfl | rfl | rfl | rfl | rfl | rfl | rfl <;> rfl⟩
abbrev VI (x:Rw):Value:=.agg #[.int .i64 x.i.gen,.int .i64 x.i.kind,.int .i64 x.i.links,.int .i64 x.i.size,.int .i64 x.i.stamp,.slice x.rp x.rn x.rc,.slice x.ep x.en x.ec,.int .i64 x.i.next]
/-- Lists that a copy can be made of. -/
def okI (x:Ino):Prop:=okFields x.runs/\x.runs.length<=5864062014805/\x.ents.length<=3518437208883
/-- An inode's lists lie in the world. -/
def Good (S:Nat->Prop) (w:World) (x:Rw):Prop:=At ER S w (.slice x.rp x.rn x.rc) x.i.runs/\At EE S w (.slice x.ep x.en x.ec) x.i.ents/\okI x.i
def TabAt (S:Nat->Prop) (w:World) (v:Value) (L:List Rw):Prop:=At EI S w v L/\∀ x∈L,Good S w x
abbrev TabW (w:World) (v:Value) (L:List Rw):Prop:=TabAt (fun _=>True) w v L
theorem Good.up {S:Nat->Prop} {w w':World} {x:Rw} (h:Good S w x) (hb:Below w.heap.size w w'):Good S w' x:=⟨h.1.up hb,h.2.1.up hb,h.2.2⟩
theorem TabAt.up {S:Nat->Prop} {w w':World} {v:Value} {L:List Rw} (h:TabAt S w v L) (hb:Below w.heap.size w w'):TabAt S w' v L:=⟨h.1.up hb,fun x hx=>(h.2 x hx).up hb⟩
theorem Good.len {S:Nat->Prop} {w:World} {x:Rw} (h:Good S w x):x.rn = x.i.runs.length/\x.en = x.i.ents.length:=by
  obtain ⟨_,_,h1,_⟩:=h.1.open
  obtain ⟨_,_,h2,_⟩:=h.2.1.open
  simp only [Value.slice.injEq] at h1 h2
  exact ⟨h1.2.1,h2.2.1⟩
/-- The eight cells of an inode. -/
def eight (w:World) (b o:Nat) (x:Rw):Prop :=
  w.cell? ⟨b,o,none⟩ = some (.int .i64 x.i.gen)/\w.cell? ⟨b,o + 1,none⟩ = some (.int .i64 x.i.kind)/\w.cell? ⟨b,o + 2,none⟩ = some (.int .i64 x.i.links)/\w.cell? ⟨b,o + 3,none⟩ = some (.int .i64 x.i.size) /\
  w.cell? ⟨b,o + 4,none⟩ = some (.int .i64 x.i.stamp)/\w.cell? ⟨b,o + 5,none⟩ = some (.slice x.rp x.rn x.rc)/\w.cell? ⟨b,o + 6,none⟩ = some (.slice x.ep x.en x.ec)/\w.cell? ⟨b,o + 7,none⟩ = some (.int .i64 x.i.next)
theorem eight.below {w w':World} {b o B:Nat} {x:Rw} (h:eight w b o x) (hb:Below B w w') (hB:b < B):eight w' b o x:=by
  obtain ⟨h0,h1,h2,h3,h4,h5,h6,h7⟩:=h
  exact ⟨(hb.cell (p:=⟨b,o,none⟩) hB).trans h0,(hb.cell (p:=⟨b,o + 1,none⟩) hB).trans h1,(hb.cell (p:=⟨b,o + 2,none⟩) hB).trans h2,(hb.cell (p:=⟨b,o + 3,none⟩) hB).trans h3,
    (hb.cell (p:=⟨b,o + 4,none⟩) hB).trans h4,(hb.cell (p:=⟨b,o + 5,none⟩) hB).trans h5,(hb.cell (p:=⟨b,o + 6,none⟩) hB).trans h6,(hb.cell (p:=⟨b,o + 7,none⟩) hB).trans h7⟩
theorem TabAt.open {S:Nat->Prop} {w:World} {v:Value} {L:List Rw} (h:TabAt S w v L):∃ ao cap,v = .slice ao L.length cap/\L.length<=maxLen /\
    ∀ i x,L[i]? = some x->(∃ b off,ao = some ⟨b,off,none⟩/\b < w.heap.size/\eight w b (off + i * 8) x)/\Good S w x:=by
  obtain ⟨ao,cap,hv,hm,hx⟩:=h.1.open
  refine ⟨ao,cap,hv,hm,fun i x hi=>⟨?_,h.2 x (List.mem_of_getElem? hi)⟩⟩
  obtain ⟨b,off,ha,_,hb,hc⟩:=hx i x hi
  refine ⟨b,off,ha,hb,?_⟩
  have c:∀ k u,(EI.cells x)[k]? = some u->w.cell? ⟨b,off + i * 8 + k,none⟩ = some u:=fun k u hu=>by
    rw [Nat.add_assoc]
    exact hc k u hu
  exact ⟨c 0 _ rfl,c 1 _ rfl,c 2 _ rfl,c 3 _ rfl,c 4 _ rfl,c 5 _ rfl,c 6 _ rfl,c 7 _ rfl⟩
end Go.Proofs.YtggoccfddnpelaaGreat
namespace Go.Proofs.YtggoccfddnpelaaGreat
open Go.ChangeShapes Go.WideShapes Go.ChangeAt Go.RowKit Go.Deep It
set_option maxRecDepth 100000
theorem within_any (lo x hi:Int) (w:World):Calls Tryz.prog 115 #[.int .i64 lo,.int .i64 x,.int .i64 hi] w fun e w'=>e = .returned (.bool (decide (lo<=x/\x<=hi)))/\w' = w:=by
  by_cases h1:lo<=x
  · by_cases h2 : x ≤ hi
    · rw [decide_eq_true (show lo ≤ x ∧ x ≤ hi from ⟨h1, h2⟩)]
      go_enter Tryz.func115,Tryz.ntmps115
      go_wp2
      go_ret
      exact ⟨rfl,rfl⟩
    · rw [decide_eq_false (show ¬ (lo ≤ x ∧ x ≤ hi) from fun h => h2 h.2)]
      go_enter Tryz.func115,Tryz.ntmps115
      go_wp2
      go_ret
      exact ⟨rfl,rfl⟩
  · rw [decide_eq_false (show ¬ (lo ≤ x ∧ x ≤ hi) from fun h => h1 h.1)]
    go_enter Tryz.func115,Tryz.ntmps115
    go_wp2
    go_ret
    exact ⟨rfl,rfl⟩
theorem within_yes (lo x hi:Int) (w:World) (h:lo<=x/\x<=hi):Calls Tryz.prog 115 #[.int .i64 lo,.int .i64 x,.int .i64 hi] w fun e w'=>e = .returned (.bool true)/\w' = w:=by
  have:=within_any lo x hi w
  rwa [decide_eq_true h] at this
theorem within_no (lo x hi:Int) (w:World) (h:¬ (lo<=x/\x<=hi)):Calls Tryz.prog 115 #[.int .i64 lo,.int .i64 x,.int .i64 hi] w fun e w'=>e = .returned (.bool false)/\w' = w:=by
  have:=within_any lo x hi w
  rwa [decide_eq_false h] at this
theorem isEmpty_len {β:Type} (l:List β) {n:Nat} (h:n = l.length):l.isEmpty = decide (n = 0):=by
  subst h
  cases l <;> simp
set_option maxHeartbeats 1000000 in
theorem right_gen (g k l s t nx:Int) (rp ep:Option Addr) (rn rc en ec:Nat) (w:World) (hg:¬ (1<=g/\g<=1099511627776)) :
    Calls Tryz.prog 116 #[.agg #[.int .i64 g,.int .i64 k,.int .i64 l,.int .i64 s,.int .i64 t,.slice rp rn rc,.slice ep en ec,.int .i64 nx]] w fun e w'=>e = .returned (.bool false)/\Below w.heap.size w w':=by
  have HG:Hid (¬ (1<=g/\g<=1099511627776)):=hg
  clear hg
  go_enter Tryz.func116,Tryz.ntmps116
  go_wp2_with fail
  refine (within_no _ _ _ _ HG.out).mono ?_
  rintro e w' ⟨rfl,rfl⟩
  go_wp2
  go_ret
  exact ⟨rfl,(Below.refl _ w).alloc (Nat.le_refl _) _⟩
set_option maxHeartbeats 1000000 in
theorem right_attr (g k l s t nx:Int) (rp ep:Option Addr) (rn rc en ec:Nat) (w:World) (hg:1<=g/\g<=1099511627776) (ha:At.right k l s t = false) :
    Calls Tryz.prog 116 #[.agg #[.int .i64 g,.int .i64 k,.int .i64 l,.int .i64 s,.int .i64 t,.slice rp rn rc,.slice ep en ec,.int .i64 nx]] w fun e w'=>e = .returned (.bool false)/\Below w.heap.size w w':=by
  have HG:Hid (1<=g/\g<=1099511627776):=hg
  have HA:Hid (At.right k l s t = false):=ha
  clear hg ha
  go_enter Tryz.func116,Tryz.ntmps116
  go_wp2_with fail
  refine (within_yes _ _ _ _ HG.out).mono ?_
  rintro e w' ⟨rfl,rfl⟩
  go_wp2_with fail
  refine (acheck_no _ _ _ _ _ HA.out).mono ?_
  rintro e w' ⟨rfl,rfl⟩
  go_wp2
  go_ret
  exact ⟨rfl,((Below.refl _ w).alloc (Nat.le_refl _) _).alloc (by simp) _⟩
set_option maxHeartbeats 1000000 in
theorem right_dir (g l s t nx : Int) (rp ep : Option Addr) (rn rc en ec : Nat) (w : World) (hg : 1 ≤ g ∧ g ≤ 1099511627776) (ha : At.right 2 l s t = true) :
    Calls Tryz.prog 116 #[.agg #[.int .i64 g,.int .i64 2,.int .i64 l,.int .i64 s,.int .i64 t,.slice rp rn rc,.slice ep en ec,.int .i64 nx]] w fun e w'=>e = .returned (.bool (decide (rn = 0)))/\Below w.heap.size w w':=by
  have HG:Hid (1<=g/\g<=1099511627776):=hg
  have HA:Hid (At.right 2 l s t = true):=ha
  clear hg ha
  by_cases he:en = 0
  · have he' : ((en : Int) == 0) = true := by simp [he]
    by_cases hn:nx = 0
    · have hn' : (nx == 0) = true := by simp [hn]
      clear he hn
      by_cases hr:rn = 0
      · have hr' : ((rn : Int) == 0) = true := by simp [hr]
        rw [decide_eq_true hr]
        clear hr
        go_enter Tryz.func116,Tryz.ntmps116
        go_wp2_with fail
        refine (within_yes _ _ _ _ HG.out).mono ?_
        rintro e w' ⟨rfl,rfl⟩
        go_wp2_with fail
        refine (acheck_yes _ _ _ _ _ HA.out).mono ?_
        rintro e w' ⟨rfl,rfl⟩
        go_wp2
        go_ret
        exact ⟨rfl,((Below.refl _ w).alloc (Nat.le_refl _) _).alloc (by simp) _⟩
      · have hr' : ((rn : Int) == 0) = false := by simp; omega
        rw [decide_eq_false hr]
        clear hr
        go_enter Tryz.func116,Tryz.ntmps116
        go_wp2_with fail
        refine (within_yes _ _ _ _ HG.out).mono ?_
        rintro e w' ⟨rfl,rfl⟩
        go_wp2_with fail
        refine (acheck_yes _ _ _ _ _ HA.out).mono ?_
        rintro e w' ⟨rfl,rfl⟩
        go_wp2
        go_ret
        exact ⟨rfl,((Below.refl _ w).alloc (Nat.le_refl _) _).alloc (by simp) _⟩
    · have hn' : (nx == 0) = false := by simp [hn]
      clear he hn
      by_cases hr:rn = 0
      · have hr' : ((rn : Int) == 0) = true := by simp [hr]
        rw [decide_eq_true hr]
        clear hr
        go_enter Tryz.func116,Tryz.ntmps116
        go_wp2_with fail
        refine (within_yes _ _ _ _ HG.out).mono ?_
        rintro e w' ⟨rfl,rfl⟩
        go_wp2_with fail
        refine (acheck_yes _ _ _ _ _ HA.out).mono ?_
        rintro e w' ⟨rfl,rfl⟩
        go_wp2
        go_ret
        exact ⟨rfl,((Below.refl _ w).alloc (Nat.le_refl _) _).alloc (by simp) _⟩
      · have hr' : ((rn : Int) == 0) = false := by simp; omega
        rw [decide_eq_false hr]
        clear hr
        go_enter Tryz.func116,Tryz.ntmps116
        go_wp2_with fail
        refine (within_yes _ _ _ _ HG.out).mono ?_
        rintro e w' ⟨rfl,rfl⟩
        go_wp2_with fail
        refine (acheck_yes _ _ _ _ _ HA.out).mono ?_
        rintro e w' ⟨rfl,rfl⟩
        go_wp2
        go_ret
        exact ⟨rfl,((Below.refl _ w).alloc (Nat.le_refl _) _).alloc (by simp) _⟩
  · have he' : ((en : Int) == 0) = false := by simp; omega
    clear he
    by_cases hr:rn = 0
    · have hr' : ((rn : Int) == 0) = true := by simp [hr]
      rw [decide_eq_true hr]
      clear hr
      go_enter Tryz.func116,Tryz.ntmps116
      go_wp2_with fail
      refine (within_yes _ _ _ _ HG.out).mono ?_
      rintro e w' ⟨rfl,rfl⟩
      go_wp2_with fail
      refine (acheck_yes _ _ _ _ _ HA.out).mono ?_
      rintro e w' ⟨rfl,rfl⟩
      go_wp2
      go_ret
      exact ⟨rfl,((Below.refl _ w).alloc (Nat.le_refl _) _).alloc (by simp) _⟩
    · have hr' : ((rn : Int) == 0) = false := by simp; omega
      rw [decide_eq_false hr]
      clear hr
      go_enter Tryz.func116,Tryz.ntmps116
      go_wp2_with fail
      refine (within_yes _ _ _ _ HG.out).mono ?_
      rintro e w' ⟨rfl,rfl⟩
      go_wp2_with fail
      refine (acheck_yes _ _ _ _ _ HA.out).mono ?_
      rintro e w' ⟨rfl,rfl⟩
      go_wp2
      go_ret
      exact ⟨rfl,((Below.refl _ w).alloc (Nat.le_refl _) _).alloc (by simp) _⟩
set_option maxHeartbeats 1000000 in
theorem right_free (g l s t nx : Int) (rp ep : Option Addr) (rn rc en ec : Nat) (w : World) (hg : 1 ≤ g ∧ g ≤ 1099511627776) (ha : At.right 0 l s t = true) :
    Calls Tryz.prog 116 #[.agg #[.int .i64 g,.int .i64 0,.int .i64 l,.int .i64 s,.int .i64 t,.slice rp rn rc,.slice ep en ec,.int .i64 nx]] w fun e w'=>e = .returned (.bool (decide (en = 0) && decide (nx = 0) && decide (rn = 0)))/\Below w.heap.size w w':=by
  have HG:Hid (1<=g/\g<=1099511627776):=hg
  have HA:Hid (At.right 0 l s t = true):=ha
  clear hg ha
  by_cases he:en = 0
  · have he' : ((en : Int) == 0) = true := by simp [he]
    by_cases hn:nx = 0
    · have hn' : (nx == 0) = true := by simp [hn]
      rw [decide_eq_true he,decide_eq_true hn]
      clear he hn
      simp only [Bool.and_self,Bool.true_and]
      by_cases hr:rn = 0
      · have hr' : ((rn : Int) == 0) = true := by simp [hr]
        rw [decide_eq_true hr]
        clear hr
        go_enter Tryz.func116,Tryz.ntmps116
        go_wp2_with fail
        refine (within_yes _ _ _ _ HG.out).mono ?_
        rintro e w' ⟨rfl,rfl⟩
        go_wp2_with fail
        refine (acheck_yes _ _ _ _ _ HA.out).mono ?_
        rintro e w' ⟨rfl,rfl⟩
        go_wp2
        go_ret
        exact ⟨rfl,((Below.refl _ w).alloc (Nat.le_refl _) _).alloc (by simp) _⟩
      · have hr' : ((rn : Int) == 0) = false := by simp; omega
        rw [decide_eq_false hr]
        clear hr
        go_enter Tryz.func116,Tryz.ntmps116
        go_wp2_with fail
        refine (within_yes _ _ _ _ HG.out).mono ?_
        rintro e w' ⟨rfl,rfl⟩
        go_wp2_with fail
        refine (acheck_yes _ _ _ _ _ HA.out).mono ?_
        rintro e w' ⟨rfl,rfl⟩
        go_wp2
        go_ret
        exact ⟨rfl,((Below.refl _ w).alloc (Nat.le_refl _) _).alloc (by simp) _⟩
    · have hn' : (nx == 0) = false := by simp [hn]
      rw [decide_eq_false hn]
      clear he hn
      simp only [Bool.and_false,Bool.false_and]
      go_enter Tryz.func116,Tryz.ntmps116
      go_wp2_with fail
      refine (within_yes _ _ _ _ HG.out).mono ?_
      rintro e w' ⟨rfl,rfl⟩
      go_wp2_with fail
      refine (acheck_yes _ _ _ _ _ HA.out).mono ?_
      rintro e w' ⟨rfl,rfl⟩
      go_wp2
      go_ret
      exact ⟨rfl,((Below.refl _ w).alloc (Nat.le_refl _) _).alloc (by simp) _⟩
  · have he' : ((en : Int) == 0) = false := by simp; omega
    rw [decide_eq_false he]
    clear he
    simp only [Bool.false_and]
    go_enter Tryz.func116,Tryz.ntmps116
    go_wp2_with fail
    refine (within_yes _ _ _ _ HG.out).mono ?_
    rintro e w' ⟨rfl,rfl⟩
    go_wp2_with fail
    refine (acheck_yes _ _ _ _ _ HA.out).mono ?_
    rintro e w' ⟨rfl,rfl⟩
    go_wp2
    go_ret
    exact ⟨rfl,((Below.refl _ w).alloc (Nat.le_refl _) _).alloc (by simp) _⟩
set_option maxHeartbeats 1000000 in
theorem right_fileno (g l s t nx:Int) (rp ep:Option Addr) (rn rc en ec:Nat) (w:World) (hg:1<=g/\g<=1099511627776) (ha:At.right 1 l s t = true) (hb:¬ (en = 0/\nx = 0)) :
    Calls Tryz.prog 116 #[.agg #[.int .i64 g,.int .i64 1,.int .i64 l,.int .i64 s,.int .i64 t,.slice rp rn rc,.slice ep en ec,.int .i64 nx]] w fun e w'=>e = .returned (.bool false)/\Below w.heap.size w w':=by
  have HG:Hid (1<=g/\g<=1099511627776):=hg
  have HA:Hid (At.right 1 l s t = true):=ha
  clear hg ha
  by_cases he:en = 0
  · have he' : ((en : Int) == 0) = true := by simp [he]
    have hn':(nx == 0) = false:=by
      rw [beq_eq_false_iff_ne]
      intro h
      exact hb ⟨he,h⟩
    clear he hb
    go_enter Tryz.func116,Tryz.ntmps116
    go_wp2_with fail
    refine (within_yes _ _ _ _ HG.out).mono ?_
    rintro e w' ⟨rfl,rfl⟩
    go_wp2_with fail
    refine (acheck_yes _ _ _ _ _ HA.out).mono ?_
    rintro e w' ⟨rfl,rfl⟩
    go_wp2
    go_quiet (fail)
    go_wp2
    go_ret
    exact ⟨rfl,Go.below_drewN (((Below.refl _ w).alloc (Nat.le_refl _) _).alloc (by simp) _) _⟩
  · have he' : ((en : Int) == 0) = false := by simp; omega
    clear he hb
    go_enter Tryz.func116,Tryz.ntmps116
    go_wp2_with fail
    refine (within_yes _ _ _ _ HG.out).mono ?_
    rintro e w' ⟨rfl,rfl⟩
    go_wp2_with fail
    refine (acheck_yes _ _ _ _ _ HA.out).mono ?_
    rintro e w' ⟨rfl,rfl⟩
    go_wp2
    go_quiet (fail)
    go_wp2
    go_ret
    exact ⟨rfl,Go.below_drewN (((Below.refl _ w).alloc (Nat.le_refl _) _).alloc (by simp) _) _⟩
set_option maxHeartbeats 1000000 in
theorem right_filebad (g l s t nx:Int) (rp ep:Option Addr) (rn rc en ec:Nat) (w:World) (hg:1<=g/\g<=1099511627776) (ha:At.right 1 l s t = true) (hb:en = 0/\nx = 0) (rs:List (Int × ByteArray)) (hr:AtW ER w (.slice rp rn rc) rs) (ho:okFields rs) (hq:¬ Bl.right (-1) rs) :
    Calls Tryz.prog 116 #[.agg #[.int .i64 g,.int .i64 1,.int .i64 l,.int .i64 s,.int .i64 t,.slice rp rn rc,.slice ep en ec,.int .i64 nx]] w fun e w'=>e = .returned (.bool false)/\Below w.heap.size w w':=by
  have HG:Hid (1<=g/\g<=1099511627776):=hg
  have HA:Hid (At.right 1 l s t = true):=ha
  clear hg ha
  have hn':(nx == 0) = true:=by simp [hb.2]
  have he':((en:Int) == 0) = true:=by simp [hb.1]
  have hw:Below w.heap.size w ((w.alloc (.cells #[.int .i64 g,.int .i64 1,.int .i64 l,.int .i64 s,.int .i64 t,.slice rp rn rc,.slice ep en ec,.int .i64 nx] 52)).alloc (BA 1 l s t)):=((Below.refl _ w).alloc (Nat.le_refl _) _).alloc (by simp) _
  have HC:Hid (∀ W,((w.alloc (.cells #[.int .i64 g,.int .i64 1,.int .i64 l,.int .i64 s,.int .i64 t,.slice rp rn rc,.slice ep en ec,.int .i64 nx] 52)).alloc (BA 1 l s t)).grownBy W none->Calls Tryz.prog 146 #[.slice rp rn rc] W fun e w'=>e = .returned (.int .i64 (80))/\Below W.heap.size W w'):=fun W hW=>by
    have:=bcheck_any _ rs W ((hr.up hw).up (below_none hW (Nat.le_refl _))).fields ho
    rwa [show Bl.err rs = 80 from by unfold Bl.err;rw [if_neg hq]] at this
  have hc5:∀ p:Grw ((w.alloc (.cells #[.int .i64 g,.int .i64 1,.int .i64 l,.int .i64 s,.int .i64 t,.slice rp rn rc,.slice ep en ec,.int .i64 nx] 52)).alloc (BA 1 l s t)),p.out.cell? ⟨w.heap.size,5,none⟩ = some (.slice rp rn rc):=fun p=>p.grown.cell (by simp) (by simp)
  have hc3:∀ p:Grw ((w.alloc (.cells #[.int .i64 g,.int .i64 1,.int .i64 l,.int .i64 s,.int .i64 t,.slice rp rn rc,.slice ep en ec,.int .i64 nx] 52)).alloc (BA 1 l s t)),p.out.cell? ⟨w.heap.size,3,none⟩ = some (.int .i64 s):=fun p=>p.grown.cell (by simp) (by simp)
  have hne9:Nonempty (Grw ((w.alloc (.cells #[.int .i64 g,.int .i64 1,.int .i64 l,.int .i64 s,.int .i64 t,.slice rp rn rc,.slice ep en ec,.int .i64 nx] 52)).alloc (BA 1 l s t))):=grw_some _
  have HW:Hid (Below w.heap.size w ((w.alloc (.cells #[.int .i64 g,.int .i64 1,.int .i64 l,.int .i64 s,.int .i64 t,.slice rp rn rc,.slice ep en ec,.int .i64 nx] 52)).alloc (BA 1 l s t))):=hw
  clear hr ho hb hq hw
  go_enter Tryz.func116,Tryz.ntmps116
  go_wp2_with fail
  refine (within_yes _ _ _ _ HG.out).mono ?_
  rintro e w' ⟨rfl,rfl⟩
  go_wp2_with fail
  refine (acheck_yes _ _ _ _ _ HA.out).mono ?_
  rintro e w' ⟨rfl,rfl⟩
  go_wp2
  refine wp_region_grw (by kernel_rfl) (by kernel_rfl) ?_
  repeat (go_big_quiet_step (first | (go_at_call 146;refine calls_grw (Grw.grown _) (HC.out _ (Grw.grown _)))))
  rintro w9 ⟨p9,rfl⟩
  have HB:Hid (Below w.heap.size w p9.out):=HW.out.trans (p9.below.mono HW.out.size)
  go_wp2
  go_ret
  exact ⟨rfl,HB.out⟩
set_option maxHeartbeats 1000000 in
theorem right_file (g l s t nx:Int) (rp ep:Option Addr) (rn rc en ec:Nat) (w:World) (hg:1<=g/\g<=1099511627776) (ha:At.right 1 l s t = true) (hb:en = 0/\nx = 0) (rs:List (Int × ByteArray)) (hr:AtW ER w (.slice rp rn rc) rs) (ho:okFields rs) (hq:Bl.right (-1) rs) :
    Calls Tryz.prog 116 #[.agg #[.int .i64 g,.int .i64 1,.int .i64 l,.int .i64 s,.int .i64 t,.slice rp rn rc,.slice ep en ec,.int .i64 nx]] w fun e w'=>e = .returned (.bool (decide (Bl.endOf rs<=s)))/\Below w.heap.size w w':=by
  have HG:Hid (1<=g/\g<=1099511627776):=hg
  have HA:Hid (At.right 1 l s t = true):=ha
  clear hg ha
  have hn':(nx == 0) = true:=by simp [hb.2]
  have he':((en:Int) == 0) = true:=by simp [hb.1]
  have hw:Below w.heap.size w ((w.alloc (.cells #[.int .i64 g,.int .i64 1,.int .i64 l,.int .i64 s,.int .i64 t,.slice rp rn rc,.slice ep en ec,.int .i64 nx] 52)).alloc (BA 1 l s t)):=((Below.refl _ w).alloc (Nat.le_refl _) _).alloc (by simp) _
  have HC:Hid (∀ W,((w.alloc (.cells #[.int .i64 g,.int .i64 1,.int .i64 l,.int .i64 s,.int .i64 t,.slice rp rn rc,.slice ep en ec,.int .i64 nx] 52)).alloc (BA 1 l s t)).grownBy W none->Calls Tryz.prog 146 #[.slice rp rn rc] W fun e w'=>e = .returned (.int .i64 (0))/\Below W.heap.size W w'):=fun W hW=>by
    have:=bcheck_any _ rs W ((hr.up hw).up (below_none hW (Nat.le_refl _))).fields ho
    rwa [show Bl.err rs = 0 from by unfold Bl.err;rw [if_pos hq]] at this
  have HE:Hid (∀ W,((w.alloc (.cells #[.int .i64 g,.int .i64 1,.int .i64 l,.int .i64 s,.int .i64 t,.slice rp rn rc,.slice ep en ec,.int .i64 nx] 52)).alloc (BA 1 l s t)).grownBy W none->Calls Tryz.prog 147 #[.slice rp rn rc] W fun e w'=>e = .returned (.int .i64 (Bl.endOf rs))/\Below W.heap.size W w'):=fun W hW=>End_any _ rs W ((hr.up hw).up (below_none hW (Nat.le_refl _))).fields ho
  have hc5:∀ p:Grw ((w.alloc (.cells #[.int .i64 g,.int .i64 1,.int .i64 l,.int .i64 s,.int .i64 t,.slice rp rn rc,.slice ep en ec,.int .i64 nx] 52)).alloc (BA 1 l s t)),p.out.cell? ⟨w.heap.size,5,none⟩ = some (.slice rp rn rc):=fun p=>p.grown.cell (by simp) (by simp)
  have hc3:∀ p:Grw ((w.alloc (.cells #[.int .i64 g,.int .i64 1,.int .i64 l,.int .i64 s,.int .i64 t,.slice rp rn rc,.slice ep en ec,.int .i64 nx] 52)).alloc (BA 1 l s t)),p.out.cell? ⟨w.heap.size,3,none⟩ = some (.int .i64 s):=fun p=>p.grown.cell (by simp) (by simp)
  have hne9:Nonempty (Grw ((w.alloc (.cells #[.int .i64 g,.int .i64 1,.int .i64 l,.int .i64 s,.int .i64 t,.slice rp rn rc,.slice ep en ec,.int .i64 nx] 52)).alloc (BA 1 l s t))):=grw_some _
  have HW:Hid (Below w.heap.size w ((w.alloc (.cells #[.int .i64 g,.int .i64 1,.int .i64 l,.int .i64 s,.int .i64 t,.slice rp rn rc,.slice ep en ec,.int .i64 nx] 52)).alloc (BA 1 l s t))):=hw
  clear hr ho hb hq hw
  obtain ⟨en9,hen⟩:∃ en9,Bl.endOf rs = en9:=⟨_,rfl⟩
  rw [hen] at HE ⊢
  clear hen
  go_enter Tryz.func116,Tryz.ntmps116
  go_wp2_with fail
  refine (within_yes _ _ _ _ HG.out).mono ?_
  rintro e w' ⟨rfl,rfl⟩
  go_wp2_with fail
  refine (acheck_yes _ _ _ _ _ HA.out).mono ?_
  rintro e w' ⟨rfl,rfl⟩
  go_wp2
  refine wp_region_grw (by kernel_rfl) (by kernel_rfl) ?_
  repeat (go_big_quiet_step (first | (go_at_call 146;refine calls_grw (Grw.grown _) (HC.out _ (Grw.grown _))) | (go_at_call 147;refine calls_grw (Grw.grown _) (HE.out _ (Grw.grown _)))))
  rintro w9 ⟨p9,rfl⟩
  have HB:Hid (Below w.heap.size w p9.out):=HW.out.trans (p9.below.mono HW.out.size)
  go_wp2
  go_ret
  exact ⟨rfl,HB.out⟩
theorem right_any {S : Nat → Prop} (x : Rw) (w : World) (h : Good S w x) : Calls Tryz.prog 116 #[VI x] w fun e w' => e = .returned (.bool (one x.i)) ∧ Below w.heap.size w w' := by
  obtain ⟨hrn,hen⟩:=h.len
  obtain ⟨hr,_,ho,_⟩:=h
  obtain ⟨⟨g,k,l,s,t,rs,es,nx⟩,rp,rn,rc,ep,en,ec⟩:=x
  simp only at hrn hen hr ho ⊢
  by_cases hg:1<=g/\g<=1099511627776
  · cases ha : At.right k l s t with
    | false =>
      rw [one_attr ha]
      exact right_attr g k l s t nx rp ep rn rc en ec w hg ha
    | true =>
      rcases kind_bd ha with rfl | rfl | rfl
      · rw [one_free hg ha, isEmpty_len es hen, isEmpty_len rs hrn]
        exact right_free g l s t nx rp ep rn rc en ec w hg ha
      · rw [one_file hg ha, isEmpty_len es hen]
        by_cases hb:en = 0/\nx = 0
        · rw [decide_eq_true hb.1, decide_eq_true hb.2]
          by_cases hq:Bl.right (-1) rs
          · rw [decide_eq_true hq]
            exact right_file g l s t nx rp ep rn rc en ec w hg ha hb rs hr.wide ho hq
          · rw [decide_eq_false hq]
            exact right_filebad g l s t nx rp ep rn rc en ec w hg ha hb rs hr.wide ho hq
        · rw [show (decide (en = 0) && decide (nx = 0)) = false from by simpa using hb]
          exact right_fileno g l s t nx rp ep rn rc en ec w hg ha hb
      · rw [one_dir hg ha, isEmpty_len rs hrn]
        exact right_dir g l s t nx rp ep rn rc en ec w hg ha
  · rw [one_gen hg]
    exact right_gen g k l s t nx rp ep rn rc en ec w hg
def It.checkErr (L:List Ino):Int:=if It.right L then 0 else 4
abbrev BH (a b:Int):Obj:=.cells #[.int .i64 a,.int .i64 b] 55
abbrev VH (h:Int × Int):Value:=.agg #[.int .i64 h.1,.int .i64 h.2]
theorem infoH:(Tryz.prog.info? 55).map (fun i=>(i.zero,i.size,i.bytes)) = some (some (.agg #[.int .i64 0,.int .i64 0]),2,16):=by kernel_rfl
theorem It.pl_get {L:List Rw} {i:Nat} {x:Rw} (h:L[i]? = some x):(It.pl L)[i]? = some x.i:=by simp [It.pl,h]
theorem It.not_right_of {L:List Ino} (h:It.right L = true->False):It.checkErr L = 4:=by
  unfold It.checkErr
  rw [if_neg h]
set_option maxHeartbeats 1000000 in
theorem check_any {S : Nat → Prop} (v : Value) (L : List Rw) (w : World) (hv : TabAt S w v L) :
    Calls Tryz.prog 85 #[v] w fun e w'=>e = .returned (.int .i64 (It.checkErr (pl L)))/\Below w.heap.size w w':=by
  obtain ⟨ao,cap,rfl,hm,hx⟩:=hv.open
  clear hv
  unfold maxLen at hm
  obtain ⟨n,hn⟩:∃ n,L.length = n:=⟨_,rfl⟩
  rw [hn] at hm ⊢
  have HN:Hid (L.length = n):=hn
  have HX:Hid (∀ i x,L[i]? = some x->(∃ b off,ao = some ⟨b,off,none⟩/\b < w.heap.size/\eight w b (off + i * 8) x)/\Good S w x):=hx
  clear hn hx
  by_cases hr:1<=n/\n<=24
  · have h0 : L[0]? = some (L[0]'(by have := HN.out; omega)) := List.getElem?_eq_getElem _
    obtain ⟨x,hx0⟩:∃ x,L[0]? = some x:=⟨_,h0⟩
    clear h0
    obtain ⟨⟨b,off,rfl,hB,hc⟩,hg⟩:=HX.out 0 x hx0
    have c1:=hc.2.1
    simp only [Nat.zero_mul,Nat.add_zero] at c1
    have HW:Hid ((1:Int)<=(n:Int)/\(n:Int)<=24):=⟨by omega,by omega⟩
    have hn0:(0:Int) < (n:Int):=by omega
    by_cases hk:x.i.kind = 2
    · have hk' : (x.i.kind == 2) = true := by simp [hk]
      have HR0:Hid (rootB (pl L) = true):=by
        cases L with
        | nil=>simp at hx0
        | cons y l =>
          simp at hx0
          subst hx0
          exact decide_eq_true hk
      rw [hk] at c1
      generalize x.i.kind = kk at hk'
      clear hc hg hk
      go_enter Tryz.func85,Tryz.ntmps85
      go_wp2_with fail
      refine (within_yes _ _ _ _ HW.out).mono ?_
      rintro e w' ⟨rfl,rfl⟩
      go_wp2
      go_loopw [19] (fun i wr=>∃ k:Nat,k<=n/\i = .int .i64 k/\(∀ y∈L.take k,one y.i = true)/\Below w'.heap.size w' wr) (fun i _=>n - (intOf i).toNat)
      case atStart=>exact ⟨0,Nat.zero_le _,rfl,by simp,Below.refl _ _⟩
      case round =>
        obtain ⟨k,hk,rfl,hall,hbl⟩:=hrel
        have HALL:Hid (∀ y∈L.take k,one y.i = true):=hall
        clear hall
        have hsz:=hbl.size
        by_cases hlt:k < n
        · have h0 : L[k]? = some (L[k]'(by have := HN.out; omega)) := List.getElem?_eq_getElem _
          obtain ⟨y,hyk⟩:∃ y,L[k]? = some y:=⟨_,h0⟩
          clear h0
          obtain ⟨⟨b',off',hbe,hB',hc'⟩,hg'⟩:=HX.out k y hyk
          cases hbe
          obtain ⟨d0,d1,d2,d3,d4,d5,d6,d7⟩:=hc'.below hbl hB'
          have HGY:Hid (Good S wr y):=(hg'.up hbl)
          have HT:Hid (L.take (k + 1) = L.take k ++ [y]):=It.take_succ hyk
          have HMY:Hid (y∈L):=List.mem_of_getElem? hyk
          have hlt':(k:Int) < (n:Int):=by omega
          clear hyk hc' hg'
          go_wp2_with fail
          refine (right_any y _ (HGY.out.up ((Below.refl _ _).alloc (Nat.le_refl _) _))).mono ?_
          rintro e w2 ⟨rfl,hb2⟩
          have HB2:Hid (Below w'.heap.size w' w2):=(hbl.alloc hsz _).trans (hb2.mono (by simp;omega))
          clear hb2
          cases ho:one y.i with
          | false =>
            have HE:Hid (It.checkErr (pl L) = 4):=It.not_right_of fun h=>by
              have:=(It.right_iff.1 h).2.2 y.i (List.mem_map.2 ⟨y,HMY.out,rfl⟩)
              rw [ho] at this
              cases this
            clear ho
            go_wp2
            go_ret
            rw [HE.out]
            exact ⟨rfl,HB2.out⟩
          | true =>
            have HO:Hid (one y.i = true):=ho
            clear ho
            go_wp2
            go_roundw
            case rel =>
              refine ⟨k + 1,by omega,by go_num,fun z hz=>?_,HB2.out⟩
              rw [HT.out,List.mem_append] at hz
              rcases hz with hz | hz
              · exact HALL.out z hz
              · simp at hz
                subst hz
                exact HO.out
            case measure=>simp [intOf];omega
        · obtain rfl : k = n := by omega
          have HE:Hid (It.checkErr (pl L) = 0):=by
            show It.checkErr (pl L) = 0
            unfold It.checkErr
            rw [if_pos]
            refine It.right_iff.2 ⟨?_,HR0.out,fun z hz=>?_⟩
            · have := HN.out
              simp only [pl,List.length_map]
              omega
            · obtain ⟨y, hy, rfl⟩ := List.mem_map.1 hz
              refine HALL.out y ?_
              rw [← HN.out,List.take_length]
              exact hy
          go_wp2
          go_ret
          rw [HE.out]
          exact ⟨rfl,hbl⟩
    · have hk' : (x.i.kind == 2) = false := by simp [hk]
      have HE:Hid (It.checkErr (pl L) = 4):=It.not_right_of fun h=>by
        have:=(It.right_iff.1 h).2.1
        cases L with
        | nil=>simp at hx0
        | cons y l =>
          simp at hx0
          subst hx0
          exact hk (of_decide_eq_true this)
      clear hc hg hk
      go_enter Tryz.func85,Tryz.ntmps85
      go_wp2_with fail
      refine (within_yes _ _ _ _ HW.out).mono ?_
      rintro e w' ⟨rfl,rfl⟩
      go_wp2
      go_ret
      rw [HE.out]
      exact ⟨rfl,Below.refl _ _⟩
  · have HE : Hid (It.checkErr (pl L) = 4) := It.not_right_of fun h => by
      have:=(It.right_iff.1 h).1
      simp only [pl,List.length_map] at this
      have:=HN.out
      omega
    have HW:Hid (¬ ((1:Int)<=(n:Int)/\(n:Int)<=24)):=show ¬ _ by omega
    clear hr
    go_enter Tryz.func85,Tryz.ntmps85
    go_wp2_with fail
    refine (within_no _ _ _ _ HW.out).mono ?_
    rintro e w' ⟨rfl,rfl⟩
    go_wp2
    go_ret
    rw [HE.out]
    exact ⟨rfl,Below.refl _ _⟩
theorem one_hand (w:World) (a b:Int) (B:Nat) (h:w.heap[B]? = some (BH a b)):AtW EH w (.slice (some ⟨B,0,none⟩) 1 1) [(a,b)]:=by
  refine .inr ⟨B,0,1,rfl,trivial,(Array.getElem?_eq_some_iff.1 h).1,by simp,by simp,by simp [maxLen],fun j u hj=>?_⟩
  have hj':[Value.int .i64 a,.int .i64 b][j]? = some u:=hj
  match j,hj' with
  | 0,hj'=>simp [World.cell?,h] at hj' ⊢;exact hj'
  | 1,hj'=>simp [World.cell?,h] at hj' ⊢;exact hj'
set_option maxHeartbeats 1000000 in
set_option maxRecDepth 100000 in
theorem used_any {S : Nat → Prop} (v : Value) (L : List Rw) (w : World) (hv : TabAt S w v L) (hL : L.length ≤ 1466015503701) :
    Calls Tryz.prog 120 #[v] w fun e w'=>∃ u,e = .returned u/\AtW EH w' u (used (pl L))/\Below w.heap.size w w':=by
  obtain ⟨i0,hi,hz0,hz1,hz2⟩:=info_parts infoH
  obtain ⟨ao,cap,rfl,hm,hx⟩:=hv.open
  clear hv
  unfold maxLen at hm
  obtain ⟨n,hn⟩:∃ n,L.length = n:=⟨_,rfl⟩
  rw [hn] at hm hL ⊢
  have HN:Hid (L.length = n):=hn
  have HX:Hid (∀ i x,L[i]? = some x->(∃ b off,ao = some ⟨b,off,none⟩/\b < w.heap.size/\eight w b (off + i * 8) x)/\Good S w x):=hx
  clear hn hx
  go_enter Tryz.func120,Tryz.ntmps120
  go_wp2
  go_loopw [3,8] (fun u i wr=>∃ k:Nat,k<=n/\i = .int .i64 k/\Row EH wr w.heap.size 55 u (used ((pl L).take k))/\Hid (Below w.heap.size w wr)) (fun _ i _=>n - (intOf i).toNat)
  case atStart=>exact ⟨0,Nat.zero_le _,rfl,Row.nil _ _ _ _,Below.refl _ _⟩
  case round =>
    obtain ⟨k,hk,rfl,hrow,HB⟩:=hrel
    by_cases hlt:k < n
    · have h0 : L[k]? = some (L[k]'(by have := HN.out; omega)) := List.getElem?_eq_getElem _
      obtain ⟨y,hyk⟩:∃ y,L[k]? = some y:=⟨_,h0⟩
      clear h0
      obtain ⟨⟨b,off,rfl,hB',hc'⟩,_⟩:=HX.out k y hyk
      obtain ⟨d0,d1,d2,d3,d4,d5,d6,d7⟩:=hc'.below HB.out hB'
      have HU:=It.used_take_succ (It.pl_get hyk)
      have hul:=It.used_length ((pl L).take k)
      rw [List.length_take] at hul
      obtain ⟨pu,cu,hu⟩:=hrow.slice
      generalize used ((pl L).take k) = O at hrow hu HU hul
      obtain ⟨q,hq⟩:∃ q,O.length = q:=⟨_,rfl⟩
      have HQ:Hid (O.length = q):=hq
      rw [hq] at hu hul
      have hqk:q<=k:=by omega
      subst hu
      have hlt':(k:Int) < (n:Int):=by omega
      clear hyk hc' hq hul
      by_cases hkd:y.i.kind = 0
      · rw [if_pos hkd, List.append_nil] at HU
        have hkd':(y.i.kind == 0) = true:=by simp [hkd]
        have HU2:Hid (used ((pl L).take (k + 1)) = O):=HU
        have HR:Hid (Row EH wr w.heap.size 55 (.slice pu q cu) O):=hrow
        clear hkd HU hrow
        go_wp2
        go_roundw
        case rel=>exact ⟨k + 1,by omega,by go_num,by rw [HU2.out];exact HR.out.still (World.grownBy_alloc _ _ _),HB.out.alloc HB.out.size _⟩
        case measure=>simp [intOf];omega
      · rw [if_neg hkd] at HU
        have hkd':(y.i.kind == 0) = false:=by simp [hkd]
        have HU2:Hid (used ((pl L).take (k + 1)) = O ++ [((k:Int),y.i.gen)]):=HU
        have HR:Hid (Row EH wr w.heap.size 55 (.slice pu q cu) O):=hrow
        have hbs:=HB.out.size
        obtain ⟨OB,hOB⟩:∃ OB,OB = (Obj.cells #[.int .i64 y.i.gen,.int .i64 y.i.kind,.int .i64 y.i.links,.int .i64 y.i.size,.int .i64 y.i.stamp,.slice y.rp y.rn y.rc,.slice y.ep y.en y.ec,.int .i64 y.i.next] 52):=⟨_,rfl⟩
        have HI:Hid (AtW EH ((wr.alloc OB).alloc (BH k y.i.gen)) (.slice (some ⟨wr.heap.size + 1,0,none⟩) 1 1) [((k:Int),y.i.gen)]):=by
          refine one_hand _ _ _ _ ?_
          have:=heap_alloc_new (wr.alloc OB) (BH k y.i.gen)
          rw [show (wr.alloc OB).heap.size = wr.heap.size + 1 by simp] at this
          exact this
        rw [hOB] at HI
        clear hkd HU hrow hOB
        go_wp2_with (at_builtin;refine wpList_row _ rfl _ _ 142 rfl EH (fun _=>True) w.heap.size 55 i0 (.agg #[.int .i64 0,.int .i64 0]) 16 Tryz.underlying142 hi hz0 hz1 hz2 rfl (.slice pu q cu) O rfl ((HR.out.still (World.grownBy_alloc _ _ _)).still (World.grownBy_alloc _ _ _)) _ [((k:Int),y.i.gen)] rfl HI.out (by have:=HQ.out;unfold maxLen;simp;omega) (by have:=HQ.out;simp;omega) (by simp;omega) ?_;intro v7 w7 hrow7 hg7 hmv7)
        have HB7:Hid (Below w.heap.size w w7):=((HB.out.alloc hbs _).alloc (by simp;omega) _).grown hg7 (by simp;omega) (fun i hi=>(HR.out.lt i hi).1)
        have HR7:Hid (Row EH w7 w.heap.size 55 v7 (O ++ [((k:Int),y.i.gen)])):=hrow7
        clear hrow7 hg7 hmv7
        go_wp2
        go_roundw
        case rel=>exact ⟨k + 1,by omega,by go_num,by rw [HU2.out];exact HR7.out,HB7⟩
        case measure=>simp [intOf];omega
    · obtain rfl : k = n := by omega
      have HE:Hid (AtW EH wr u3 (used (pl L))/\Below w.heap.size w wr):=by
        have h:=hrow.at.wide
        rw [List.take_of_length_le (by have:=HN.out;simp only [pl,List.length_map];omega)] at h
        exact ⟨h,HB.out⟩
      obtain ⟨pu,cu,hu⟩:=hrow.slice
      generalize (used ((pl L).take k)).length = q at hu
      subst hu
      clear hrow
      go_wp2
      go_ret
      exact ⟨_,rfl,HE.out⟩
end Go.Proofs.YtggoccfddnpelaaGreat
