/- Refuse, Own, With, WithA, Next, Make, MakeB, FPlain, FPlainF, FName, as one. -/
import Derived.Laws.ResultCell
import Derived.OwnWalk
import Derived.Deep.MidRow
import Derived.Laws.RangeAny
import Derived.Maps.OwnSet
import Derived.Test.YtggoccfddnpelaaGreatR2
namespace Go.Proofs.YtggoccfddnpelaaGreat
open Go.ChangeShapes Go.WideShapes Go.ChangeAt Go.RowKit Go.Deep It
set_option maxRecDepth 100000
set_option maxHeartbeats 1000000 in
theorem index_any {S : Nat → Prop} (v : Value) (l : List (Int × Int)) (a b : Int) (w : World) (hv : At EH S w v l) :
    Calls Tryz.prog 124 #[v,.agg #[.int .i64 a,.int .i64 b]] w fun e w'=>∃ r:Int,e = .returned (.int .i64 r)/\decide (0<=r) = decide ((a,b)∈l)/\Below w.heap.size w w':=by
  obtain ⟨ao,cap,rfl,hm,hx⟩:=hv.open
  clear hv
  unfold maxLen at hm
  obtain ⟨n,hn⟩:∃ n,l.length = n:=⟨_,rfl⟩
  rw [hn] at hm ⊢
  have HN:Hid (l.length = n):=hn
  have HX:Hid (∀ i x,l[i]? = some x->∃ b off,ao = some ⟨b,off,none⟩/\S b/\b < w.heap.size/\∀ k u,(EH.cells x)[k]? = some u->w.cell? ⟨b,off + (i * 2 + k),none⟩ = some u):=hx
  have HB0:Hid (Below w.heap.size w (w.alloc (BH a b))):=(Below.refl _ w).alloc (Nat.le_refl _) _
  obtain ⟨W,hW⟩:∃ W,W = w.alloc (BH a b):=⟨_,rfl⟩
  have e0:W.cell? ⟨w.heap.size,0,none⟩ = some (.int .i64 a):=by rw [hW];simp
  have e1:W.cell? ⟨w.heap.size,1,none⟩ = some (.int .i64 b):=by rw [hW];simp
  have hws:w.heap.size < W.heap.size:=by rw [hW];simp
  rw [← hW] at HB0
  clear hn hx
  go_enter Tryz.func124,Tryz.ntmps124
  go_wp2
  rw [← hW]
  clear hW
  go_loopw [8] (fun i wr=>∃ k:Nat,k<=n/\i = .int .i64 k/\(a,b) ∉ l.take k/\Below W.heap.size W wr) (fun i _=>n - (intOf i).toNat)
  case atStart=>exact ⟨0,Nat.zero_le _,rfl,by simp,Below.refl _ _⟩
  case round =>
    obtain ⟨k,hk,rfl,hno,hbl⟩:=hrel
    have HNO:Hid ((a,b) ∉ l.take k):=hno
    clear hno
    rw [← hbl.cell (p:=⟨w.heap.size,0,none⟩) hws] at e0
    rw [← hbl.cell (p:=⟨w.heap.size,1,none⟩) hws] at e1
    by_cases hlt:k < n
    · have h0 : l[k]? = some (l[k]'(by have := HN.out; omega)) := List.getElem?_eq_getElem _
      obtain ⟨y,hyk⟩:∃ y,l[k]? = some y:=⟨_,h0⟩
      clear h0
      obtain ⟨b',off,rfl,_,hB,hc⟩:=HX.out k y hyk
      have hBW:b' < W.heap.size:=by omega
      have c0:=hc 0 _ rfl
      have c1:=hc 1 _ rfl
      rw [← HB0.out.cell (p:=⟨b',off + (k * 2 + 0),none⟩) hB,← hbl.cell (p:=⟨b',off + (k * 2 + 0),none⟩) hBW,Nat.add_zero] at c0
      rw [← HB0.out.cell (p:=⟨b',off + (k * 2 + 1),none⟩) hB,← hbl.cell (p:=⟨b',off + (k * 2 + 1),none⟩) hBW,← Nat.add_assoc] at c1
      have HT:Hid (l.take (k + 1) = l.take k ++ [y]):=It.take_succ hyk
      have HMY:Hid (y∈l):=List.mem_of_getElem? hyk
      have hlt':(k:Int) < (n:Int):=by omega
      have hk0:(0:Int)<=(k:Int):=by omega
      obtain ⟨ya,yb⟩:=y
      simp only at c0 c1
      clear hyk hc hB hBW
      by_cases h:a = ya/\b = yb
      · have HE : Hid (decide ((0 : Int) ≤ (k : Int)) = decide ((a, b) ∈ l)) := by
          show _ = _
          rw [decide_eq_true hk0,decide_eq_true (show (a,b)∈l by rw [h.1,h.2];exact HMY.out)]
        obtain ⟨rfl,rfl⟩:=h
        go_wp2
        go_quiet (fail)
        go_wp2
        go_ret
        exact ⟨_,rfl,HE.out,Go.below_drewN (HB0.out.trans (hbl.mono HB0.out.size)) _⟩
      · have HNY : Hid ((a, b) ∉ l.take (k + 1)) := by
          show (a,b) ∉ l.take (k + 1)
          rw [HT.out,List.mem_append]
          rintro (hh | hh)
          · exact HNO.out hh
          · simp at hh
            exact h hh
        have hq:(a == ya && b == yb) = false:=by simpa using h
        have hq2:(a == ya) = true->(b == yb) = false:=fun h1=>by simpa [h1] using hq
        by_cases h1:a = ya
        · subst h1
          have h2:(b == yb) = false:=hq2 (by simp)
          clear h hq hq2
          go_wp2
          go_quiet (fail)
          go_wp2
          go_roundw
          case rel=>exact ⟨k + 1,by omega,by go_num,HNY.out,Go.below_drewN hbl _⟩
          case measure=>simp [intOf];omega
        · have h2 : (a == ya) = false := by simp [h1]
          clear h hq hq2 h1
          go_wp2
          go_quiet (fail)
          go_wp2
          go_roundw
          case rel=>exact ⟨k + 1,by omega,by go_num,HNY.out,Go.below_drewN hbl _⟩
          case measure=>simp [intOf];omega
    · obtain rfl : k = n := by omega
      have HE:Hid (decide ((0:Int)<=-1) = decide ((a,b)∈l)):=by
        have:=HNO.out
        rw [List.take_of_length_le (by have:=HN.out;omega)] at this
        show _ = _
        rw [decide_eq_false this]
        rfl
      go_wp2
      go_ret
      exact ⟨_,rfl,HE.out,HB0.out.trans (hbl.mono HB0.out.size)⟩
set_option maxHeartbeats 1000000 in
theorem contains_any {S:Nat->Prop} (v:Value) (l:List (Int × Int)) (a b:Int) (w:World) (hv:At EH S w v l) :
    Calls Tryz.prog 94 #[v,.agg #[.int .i64 a,.int .i64 b]] w fun e w'=>e = .returned (.bool (decide ((a,b)∈l)))/\Below w.heap.size w w':=by
  have HV:Hid (At EH S (w.alloc (BH a b)) v l):=hv.up ((Below.refl _ w).alloc (Nat.le_refl _) _)
  obtain ⟨ao,cap,rfl,hm,hx⟩:=hv.open
  clear hv hx
  go_enter Tryz.func94,Tryz.ntmps94
  go_wp2_with fail
  refine (index_any _ l a b _ HV.out).mono ?_
  rintro e w1 ⟨r,rfl,hr,hb⟩
  have HB:Hid (Below w.heap.size w w1):=((Below.refl _ w).alloc (Nat.le_refl _) _).trans (hb.mono (by simp))
  have HR:Hid (decide (0<=r) = decide ((a,b)∈l)):=hr
  clear hr hb
  go_wp2
  go_ret
  refine ⟨?_,HB.out⟩
  rw [← HR.out]
  rfl
theorem TabAt.drew {S:Nat->Prop} {w:World} {v:Value} {L:List Rw} (h:TabAt S w v L):TabAt S w.drew v L:=h
theorem infoR:(Tryz.prog.info? 67).map (fun i=>(i.zero,i.size,i.bytes)) = some (some (.agg #[.int .i64 0,.string ⟨#[]⟩]),2,24):=by kernel_rfl
theorem infoE:(Tryz.prog.info? 91).map (fun i=>(i.zero,i.size,i.bytes)) = some (some (.agg #[.string ⟨#[]⟩,.int .i64 0,.int .i64 0,.int .i64 0]),4,40):=by kernel_rfl
theorem infoI:(Tryz.prog.info? 52).map (fun i=>(i.zero,i.size,i.bytes)) = some (some (.agg #[.int .i64 0,.int .i64 0,.int .i64 0,.int .i64 0,.int .i64 0,.slice none 0 0,.slice none 0 0,.int .i64 0]),8,96):=by kernel_rfl
theorem results_cell1 {fn:Func} {p:Tmp} {ty:TypeId} (h:fn.results = #[.cell p ty]) (tmps:Array Value) (P:Program) (w:World) :
    (results fn tmps).run P w = ((asAddr (tmps.getD p undef)).run P w).andThen fun a w₁=>(loadVar ty a).run P w₁:=by
  simp only [results,h]
  simp [Sem.run_bind,Result.andThen]
theorem At.setCell {α:Type} {E:Enc α} {S:Nat->Prop} {w:World} {v:Value} {l:List α} (h:At E S w v l) {p:Addr} (hp:¬ S p.block) (u:Value):At E S (w.setCell p u) v l :=
  h.keep (by simp [World.setCell]) fun b hS _=>⟨Below.heap_setCell _ _ _ _ (fun e=>hp (e ▸ hS)),hS⟩
theorem At.setRow {α:Type} {E:Enc α} {S:Nat->Prop} {w:World} {v:Value} {l:List α} (h:At E S w v l) {g:Nat} (hp:¬ S g) (u:Array Value):At E S (w.setRow g u) v l :=
  h.keep (by simp [World.setRow]) fun b hS _=>⟨setRow_other w g b u (fun e=>hp (e ▸ hS)),hS⟩
abbrev B8 (a b c d e:Int) (x y:Value) (f:Int):Obj:=.cells #[.int .i64 a,.int .i64 b,.int .i64 c,.int .i64 d,.int .i64 e,x,y,.int .i64 f] 52
theorem eight_of {w:World} {A:Nat} {a b c d e f:Int} {x y:Value} (h:w.heap[A]? = some (B8 a b c d e x y f)) :
    (w.cell? ⟨A,0,none⟩ = some (.int .i64 a)/\w.cell? ⟨A,1,none⟩ = some (.int .i64 b)/\w.cell? ⟨A,2,none⟩ = some (.int .i64 c)/\w.cell? ⟨A,3,none⟩ = some (.int .i64 d)/\w.cell? ⟨A,4,none⟩ = some (.int .i64 e)/\w.cell? ⟨A,5,none⟩ = some x/\w.cell? ⟨A,6,none⟩ = some y/\w.cell? ⟨A,7,none⟩ = some (.int .i64 f))/\∀ j,w.frozen? ⟨A,j,none⟩ = false:=by
  refine ⟨⟨?_,?_,?_,?_,?_,?_,?_,?_⟩,fun j=>?_⟩ <;> simp [World.cell?,World.frozen?,h]
/-- A row of inodes, whole. -/
def Full (w:World) (g:Nat) (R:List Rw):Prop:=w.heap[g]? = some (.cells (EI.flat R).toArray 52 (0,0))
theorem Full.there {w:World} {g:Nat} {R:List Rw} (h:Full w g R) {i:Nat} (hi:i < R.length):w.there g (i * 8) 8:=fun j hj=>by
  have hl:=EI.flat_length R
  have e8:EI.sz = 8:=rfl
  rw [e8] at hl
  unfold Full at h
  have hlt:i * 8 + j < (EI.flat R).length:=by omega
  simp [World.cell?,World.frozen?,h,hlt]
theorem Full.at {w:World} {g:Nat} {R:List Rw} (h:Full w g R) {i:Nat} {x:Rw} (hx:R[i]? = some x):eight w g (i * 8) x:=by
  unfold Full at h
  have c:∀ k u,(EI.cells x)[k]? = some u->w.cell? ⟨g,i * 8 + k,none⟩ = some u:=fun k u hu=>by
    have:=EI.flat_at R i x hx k u hu
    rw [show i * EI.sz + k = i * 8 + k from rfl] at this
    simp [World.cell?,h,this]
  exact ⟨c 0 _ rfl,c 1 _ rfl,c 2 _ rfl,c 3 _ rfl,c 4 _ rfl,c 5 _ rfl,c 6 _ rfl,c 7 _ rfl⟩
theorem setCells_row {g:Nat} {t:TypeId}:∀ (vs:List Value) (o:Nat) (cur:Array Value) (w:World),w.heap[g]? = some (.cells cur t (0,0))->o + vs.length<=cur.size ->
    (w.setCells g o vs).heap[g]? = some (.cells (cur.toList.take o ++ vs ++ cur.toList.drop (o + vs.length)).toArray t (0,0))
  | [],o,cur,w,h,hl=>by simp [World.setCells,h]
  | v :: vs, o, cur, w, h, hl => by
    rw [World.setCells]
    simp only [List.length_cons] at hl
    have h1:(w.setCell ⟨g,o,none⟩ v).heap[g]? = some (.cells (cur.setIfInBounds o v) t (0,0)):=by
      rw [setCell_eq_setRow w g o cur t _ v h,setRow_heap w g cur _ t _ h]
    rw [setCells_row vs (o + 1) _ _ h1 (by simp;omega)]
    congr 3
    have e:=list_seg_step cur.toList o v vs (by simp;omega)
    simpa [Array.toList_setIfInBounds,Nat.add_assoc,Nat.add_comm,Nat.add_left_comm] using e
theorem Full.set {w:World} {g:Nat} {R:List Rw} (h:Full w g R) {i:Nat} (hi:i < R.length) (x:Rw):Full (w.setCells g (i * 8) (EI.cells x)) g (R.set i x):=by
  have hl:=EI.flat_length R
  have e8:EI.sz = 8:=rfl
  rw [e8] at hl
  unfold Full at h ⊢
  have hcl:(EI.cells x).length = 8:=EI.len x
  rw [setCells_row (EI.cells x) (i * 8) _ w h (by simp;omega),hcl]
  have:=EI.flat_set R i x hi
  rw [e8] at this
  simp only [this]
theorem Good.keep {S T:Nat->Prop} {w w':World} {x:Rw} (h:Good S w x) (hs:w.heap.size<=w'.heap.size) (hk:∀ b,S b->b < w.heap.size->w'.heap[b]? = w.heap[b]?/\T b):Good T w' x:=⟨h.1.keep hs hk,h.2.1.keep hs hk,h.2.2⟩
theorem Good.imp {S T:Nat->Prop} {w:World} {x:Rw} (h:Good S w x) (hk:∀ b,S b->b < w.heap.size->T b):Good T w x:=h.keep (Nat.le_refl _) fun b hb hl=>⟨rfl,hk b hb hl⟩
theorem setCells_size (g:Nat):∀ (vs:List Value) (o:Nat) (W:World),(W.setCells g o vs).heap.size = W.heap.size
  | [],_,_=>rfl
  | v :: vs,o,W=>by rw [World.setCells,setCells_size g vs];simp [World.setCell]
theorem setCells_other {g b:Nat} (hne:b≠g):∀ (vs:List Value) (o:Nat) (W:World),(W.setCells g o vs).heap[b]? = W.heap[b]?
  | [],_,_=>rfl
  | v :: vs, o, W => by
    rw [World.setCells,setCells_other hne vs]
    exact Below.heap_setCell _ _ _ _ hne
theorem below_cells {B g:Nat} {a:World} (hb:B<=g):∀ (vs:List Value) (o:Nat) (w:World),Below B a w->Below B a (w.setCells g o vs)
  | [],_,_,h=>h
  | v :: vs, o, w, h => by
    rw [World.setCells]
    exact below_cells hb vs (o + 1) _ (h.setCell (p:=⟨g,o,none⟩) hb v)
/-- What holds in each round of with: the row's first k inodes have lists of their own, the others old ones. -/
structure WithAt (w wr:World) (g n k:Nat) (M:List Ino) (R:List Rw):Prop where
  full:Full wr g R
  len:R.length = n
  pl:It.pl R = M
  new:∀ j x,j < k->R[j]? = some x->Good (fun b=>g < b) wr x
  old:∀ j x,k<=j->R[j]? = some x->Good (fun b=>b < w.heap.size) wr x
  below:Below w.heap.size w wr
theorem WithAt.set {w wr w2:World} {g n k:Nat} {M:List Ino} {R:List Rw} {x x':Rw} (h:WithAt w wr g n k M R) (hk:k < n) (hgw:w.heap.size<=g) (hx:R[k]? = some x) (hi:x'.i = x.i) (hg:Good (fun b=>wr.heap.size<=b) w2 x') (hb:Below wr.heap.size wr w2) :
    WithAt w (w2.setCells g (k * 8) (EI.cells x')) g n (k + 1) M (R.set k x'):=by
  have hgl:g < wr.heap.size:=(Array.getElem?_eq_some_iff.1 h.full).1
  have hf2:Full w2 g R:=(hb.block g hgl).trans h.full
  have hsz:(w2.setCells g (k * 8) (EI.cells x')).heap.size = w2.heap.size:=setCells_size g _ _ _
  have hother:∀ b,b < w2.heap.size->b≠g->(w2.setCells g (k * 8) (EI.cells x')).heap[b]? = w2.heap[b]?:=fun b _ hne=>setCells_other hne _ _ _
  have hbs:=hb.size
  refine ⟨hf2.set (by have:=h.len;omega) x',by rw [List.length_set];exact h.len,?_,fun j y hj hy=>?_,fun j y hj hy=>?_,?_⟩
  · rw [← h.pl]
    simp only [It.pl,List.map_set,hi]
    apply List.ext_getElem?
    intro j
    rw [List.getElem?_set]
    split
    · rename_i e
      subst e
      simp [hx]
      have:=h.len
      omega
    · rfl
  · rw [List.getElem?_set] at hy
    split at hy
    · have hy' : x' = y := by simpa [show k < R.length from by have := h.len; omega] using hy
      subst hy'
      exact hg.keep (by omega) fun b hS hl=>⟨hother b hl (by omega),by omega⟩
    · exact ((h.new j y (by omega) hy).up hb).keep (by omega) fun b hS hl=>⟨hother b hl (by omega),hS⟩
  · rw [List.getElem?_set] at hy
    split at hy
    · omega
    · exact ((h.old j y (by omega) hy).up hb).keep (by omega) fun b hS hl=>⟨hother b hl (by omega),hS⟩
  · exact below_cells hgw (EI.cells x') (k * 8) w2 (h.below.trans (hb.mono h.below.size))
theorem WithAt.tab {w wr:World} {g n:Nat} {M:List Ino} {R:List Rw} (h:WithAt w wr g n n M R) (hg:w.heap.size<=g) (hn:n<=25):TabAt (fun b=>w.heap.size<=b) wr (.slice (some ⟨g,0,none⟩) n n) R:=by
  have hgl:g < wr.heap.size:=(Array.getElem?_eq_some_iff.1 h.full).1
  have hl:=h.len
  refine ⟨?_,fun y hy=>?_⟩
  · by_cases hp : 0 < n
    · refine .inr ⟨g, 0, n, by rw [hl], hg, hgl, by omega, by omega, by unfold maxLen; omega, fun j u hj => ?_⟩
      have:=h.full
      unfold Full at this
      simp [World.cell?,this,hj]
    · have h0 : R = [] := List.eq_nil_of_length_eq_zero (by omega)
      exact .inl ⟨_,_,by rw [show n = 0 by omega],h0⟩
  · obtain ⟨j, hj⟩ := List.mem_iff_getElem?.1 hy
    have hjl:j < R.length:=(List.getElem?_eq_some_iff.1 hj).1
    exact (h.new j y (by omega) hj).imp fun b hb _=>by omega
/-- An inode without lists. -/
def It.bare (i:Ino):Rw:=⟨i,none,0,0,none,0,0⟩
theorem good_bare (S:Nat->Prop) (w:World) {i:Ino} (h1:i.runs = []) (h2:i.ents = []):Good S w (It.bare i):=by
  refine ⟨.inl ⟨_,_,rfl,h1⟩,.inl ⟨_,_,rfl,h2⟩,?_⟩
  unfold It.bare okI
  simp only
  rw [h1,h2]
  exact ⟨fun x hx=>(by cases hx),Nat.zero_le _,Nat.zero_le _⟩
set_option maxHeartbeats 1000000 in
theorem fresh_any (a b c:Int) (w:World):Calls Tryz.prog 73 #[.int .i64 a,.int .i64 b,.int .i64 c] w fun e w'=>e = .returned (VI (It.bare (fresh a b c)))/\Below w.heap.size w w':=by
  go_enter Tryz.func73,Tryz.ntmps73
  go_wp2
  (try simp only [Exit.inBlock,Exit.then])
  refine bodyPost_ret (v:=.agg #[.int .i64 a,.int .i64 b,.int .i64 1,.int .i64 0,.int .i64 c,.slice none 0 0,.slice none 0 0,.int .i64 0]) ?_ rfl ⟨rfl,?_⟩
  · rw [results_cell1 rfl]
    go_simp
  · exact (Below.refl _ w).alloc (Nat.le_refl _) _
theorem one_tab (S:Nat->Prop) (w:World) (B:Nat) (x:Rw) (hS:S B) (h:w.heap[B]? = some (.cells (EI.cells x).toArray 52 (0,0))):At EI S w (.slice (some ⟨B,0,none⟩) 1 1) [x]:=by
  refine .inr ⟨B,0,1,rfl,hS,(Array.getElem?_eq_some_iff.1 h).1,by simp,by simp,by simp [maxLen],fun j u hj=>?_⟩
  have hj':(EI.cells x)[j]? = some u:=by simpa [Enc.flat] using hj
  simp [World.cell?,h,hj']
set_option maxHeartbeats 1000000 in
theorem new_any (w:World):Calls Tryz.prog 47 #[] w fun e w'=>∃ u L,e = .returned u/\TabAt (fun b=>w.heap.size<=b) w' u L/\pl L = It.new/\Below w.heap.size w w':=by
  go_enter Tryz.func47,Tryz.ntmps47
  go_wp2_with fail
  refine (fresh_any 1 2 0 _).mono ?_
  rintro e w1 ⟨rfl,hb1⟩
  have HB1:Hid (Below w.heap.size w w1):=hb1
  clear hb1
  go_wp2
  go_ret
  refine ⟨_,[It.bare (fresh 1 2 0)],rfl,⟨one_tab _ _ _ _ HB1.out.size ?_,fun x hx=>?_⟩,rfl,HB1.out.alloc HB1.out.size _⟩
  · exact heap_alloc_new w1 _
  · simp at hx
    subst hx
    exact good_bare _ _ rfl rfl
theorem two_of {w:World} {A:Nat} {a b:Int} (h:w.heap[A]? = some (BH a b)):(w.cell? ⟨A,0,none⟩ = some (.int .i64 a)/\w.cell? ⟨A,1,none⟩ = some (.int .i64 b))/\∀ j,w.frozen? ⟨A,j,none⟩ = false:=by
  refine ⟨⟨?_,?_⟩,fun j=>?_⟩ <;> simp [World.cell?,World.frozen?,h]
theorem It.named {L:List Rw} {no gen:Int} (h:names (pl L) no gen = true):∃ (k:Nat) (x:Rw),no = (k:Int)/\L[k]? = some x/\x.i.gen = gen/\x.i.kind≠0/\k < L.length:=by
  obtain ⟨i,x,hx,hn,hg,hk⟩:=It.names_iff.1 h
  simp only [pl,List.getElem?_map,Option.map_eq_some_iff] at hx
  obtain ⟨y,hy,rfl⟩:=hx
  exact ⟨i,y,hn,hy,hg,hk,(List.getElem?_eq_some_iff.1 hy).1⟩
theorem It.right_len {L:List Rw} (h:It.right (pl L) = true):L.length<=24:=by
  have:=(It.right_iff.1 h).1
  simpa [pl] using this.2
theorem TabAt.wide {S:Nat->Prop} {w:World} {v:Value} {L:List Rw} (h:TabAt S w v L):TabW w v L:=⟨h.1.wide,fun x hx=>(h.2 x hx).imp fun _ _ _=>trivial⟩
theorem TabAt.imp {S T:Nat->Prop} {w:World} {v:Value} {L:List Rw} (h:TabAt S w v L) (hk:∀ b,S b->b < w.heap.size->T b):TabAt T w v L:=⟨h.1.imp hk,fun x hx=>(h.2 x hx).imp hk⟩
theorem TabAt.more {A B:Nat} {w:World} {v:Value} {L:List Rw} (h:TabAt (fun b=>B<=b) w v L) (hk:A<=B):TabAt (fun b=>A<=b) w v L:=h.imp fun _ hb _=>Nat.le_trans hk hb
theorem Good.setCell {S:Nat->Prop} {w:World} {x:Rw} (h:Good S w x) {p:Addr} (hp:¬ S p.block) (u:Value):Good S (w.setCell p u) x:=⟨h.1.setCell hp u,h.2.1.setCell hp u,h.2.2⟩
end Go.Proofs.YtggoccfddnpelaaGreat
namespace Go.Proofs.YtggoccfddnpelaaGreat
set_option maxRecDepth 100000
namespace Nm
/-- No byte that may not be, up to p. -/
def clean (s:ByteArray) (p:Nat):Prop:=∀ i (h:i < s.size),i < p->(s[i]'h).toNat≠47/\(s[i]'h).toNat≠0
def ok (s:ByteArray):Prop:=1<=s.size/\s.size<=32/\s≠⟨#[46]⟩/\s≠⟨#[46,46]⟩/\clean s s.size
open Classical in
noncomputable def err (s:ByteArray):Int:=if ok s then 0 else 409
theorem err_ok {s:ByteArray} (h:ok s):err s = 0:=by unfold err;rw [if_pos h]
theorem err_no {s:ByteArray} (h:¬ ok s):err s = 409:=by unfold err;rw [if_neg h]
theorem err_or (s:ByteArray):(err s = 0/\ok s)∨(err s = 409/\¬ ok s):=by
  by_cases h:ok s
  · exact .inl ⟨err_ok h,h⟩
  · exact .inr ⟨err_no h,h⟩
theorem clean_zero (s:ByteArray):clean s 0:=fun i _ h=>by omega
theorem clean_bad {s:ByteArray} {p:Nat} (h:p < s.size) (hb:(s[p]'h).toNat = 47∨(s[p]'h).toNat = 0):¬ ok s:=fun hk=>by
  have:=hk.2.2.2.2 p h h
  rcases hb with hb | hb
  · exact this.1 hb
  · exact this.2 hb
theorem clean_succ {s:ByteArray} {p:Nat} (h:p < s.size) (hc:clean s p) (h1:(s[p]'h).toNat≠47) (h2:(s[p]'h).toNat≠0):clean s (p + 1):=fun i hi hl=>by
  by_cases e:i = p
  · subst e
    exact ⟨h1,h2⟩
  · exact hc i hi (by omega)
theorem get_tail (s:ByteArray) (i:Nat) (h:i < s.size):s.get! i = s[i]'h:=by
  simp [ByteArray.get!,getElem!_pos,h]
  rfl
/-- What a decode jumps over lies within the text and is 128 or more. -/
theorem decode_skip (s:ByteArray) (pos:Nat) (h:pos < s.size):1<=(Utf8.decode s pos).2/\pos + (Utf8.decode s pos).2<=s.size/\∀ k,1<=k->k < (Utf8.decode s pos).2->128<=(s.get! (pos + k)).toNat:=by
  by_cases ha:(s[pos]'h).toNat < 128
  · rw [decode_ascii s pos h ha]
    exact ⟨Nat.le_refl _,h,fun k h1 h2=>by simp at h2;omega⟩
  · simp only [Utf8.decode, get_at s pos h, ha, if_false]
    generalize h1:(s.get! (pos + 1)).toNat = b1
    generalize h2:(s.get! (pos + 2)).toNat = b2
    generalize h3:(s.get! (pos + 3)).toNat = b3
    have one:∀ k,1<=k->k < 1->128<=(s.get! (pos + k)).toNat:=fun k _ _=>by omega
    repeat' split
    all_goals simp only [Bool.and_eq_true,decide_eq_true_eq,beq_iff_eq] at *
    all_goals refine ⟨by decide,by omega,?_⟩
    all_goals first
      | exact one
      | (intro k hk1 hk2
         have hk:k = 1∨k = 2∨k = 3:=by omega
         rcases hk with rfl | rfl | rfl
         · rw [h1];omega
         · rw [h2];omega
         · rw [h3];omega)
theorem decode_bad (s:ByteArray) (pos:Nat) (h:pos < s.size):((Utf8.decode s pos).1 = 47 ↔ (s[pos]'h).toNat = 47)/\((Utf8.decode s pos).1 = 0 ↔ (s[pos]'h).toNat = 0):=by
  by_cases ha:(s[pos]'h).toNat < 128
  · rw [decode_ascii s pos h ha]
    exact ⟨Iff.rfl,Iff.rfl⟩
  · have := (decode_high s pos h (by omega)).1
    constructor <;> constructor <;> intro h' <;> omega
theorem clean_jump {s:ByteArray} {p:Nat} (h:p < s.size) (hc:clean s p) (h1:(Utf8.decode s p).1≠47) (h2:(Utf8.decode s p).1≠0):clean s (p + (Utf8.decode s p).2):=fun i hi hl=>by
  obtain ⟨hb1,hb2⟩:=decode_bad s p h
  by_cases e:i < p
  · exact hc i hi e
  · by_cases e2 : i = p
    · subst e2
      exact ⟨fun h'=>h1 (hb1.2 h'),fun h'=>h2 (hb2.2 h')⟩
    · have := (decode_skip s p h).2.2 (i - p) (by omega) (by omega)
      rw [show p + (i - p) = i by omega,get_tail s i hi] at this
      constructor <;> omega
end Nm
end Go.Proofs.YtggoccfddnpelaaGreat
namespace Go.Proofs.YtggoccfddnpelaaGreat
open Go.RowKit Go.Maps
set_option maxRecDepth 100000
/-- An entry: name, cookie, the handle's number and generation. -/
abbrev Ent:=ByteArray × Int × Int × Int
/-- A handle that an entry may have. -/
def Ho (no gen:Int):Prop:=(0<=no/\no<=23)/\(1<=gen/\gen<=1099511627776)
instance (no gen:Int):Decidable (Ho no gen):=by unfold Ho;infer_instance
namespace Fo
def lastC (l:List Ent):Nat->Int
  | 0=>0
  | i + 1=>(l.getD i (.empty,0,0,0)).2.1
def good (next:Int) (l:List Ent) (i:Nat):Prop:=∀ x,l[i]? = some x->Nm.ok x.1/\(lastC l i + 1<=x.2.1/\x.2.1<=next)/\Ho x.2.2.1 x.2.2.2
def Pre (next:Int) (l:List Ent) (k:Nat):Prop:=∀ i,i < k->good next l i
/-- No two names the same. -/
def apart (l:List Ent):Prop:=(l.map (·.1)).Nodup
def Right (l:List Ent) (next:Int):Prop:=(0<=next/\next<=1099511627776)/\Pre next l l.length/\apart l
open Classical in
noncomputable def err (l:List Ent) (next:Int):Int:=if Right l next then 0 else 4
theorem err_ok {l:List Ent} {next:Int} (h:Right l next):err l next = 0:=by unfold err;rw [if_pos h]
theorem err_no {l:List Ent} {next:Int} (h:¬ Right l next):err l next = 4:=by unfold err;rw [if_neg h]
theorem err_or (l:List Ent) (next:Int):(err l next = 0/\Right l next)∨(err l next = 4/\¬ Right l next):=by
  by_cases h:Right l next
  · exact .inl ⟨err_ok h,h⟩
  · exact .inr ⟨err_no h,h⟩
theorem pre_zero (next:Int) (l:List Ent):Pre next l 0:=fun i h=>by omega
theorem pre_succ {next:Int} {l:List Ent} {k:Nat} (h:Pre next l k) (hg:good next l k):Pre next l (k + 1):=fun i hi=>by
  by_cases e:i = k
  · subst e
    exact hg
  · exact h i (by omega)
theorem lastC_succ {l:List Ent} {k:Nat} {x:Ent} (h:l[k]? = some x):lastC l (k + 1) = x.2.1:=by
  simp [lastC,List.getD,h]
theorem lastC_bd {next:Int} {l:List Ent} {k:Nat} (h:Pre next l k) (hk:k<=l.length) (hn:0<=next):0<=lastC l k/\lastC l k<=next:=by
  induction k with
  | zero=>exact ⟨Int.le_refl _,hn⟩
  | succ k ih =>
    have hx:l[k]? = some l[k]:=List.getElem?_eq_getElem (by omega)
    have hg:=h k (by omega) _ hx
    have:=ih (fun i hi=>h i (by omega)) (by omega)
    rw [lastC_succ hx]
    omega
theorem not_good {next:Int} {l:List Ent} {k:Nat} {x:Ent} (hx:l[k]? = some x) (h:¬ (Nm.ok x.1/\(lastC l k + 1<=x.2.1/\x.2.1<=next)/\Ho x.2.2.1 x.2.2.2)):err l next = 4 :=
  err_no fun hr=>h (hr.2.1 k (List.getElem?_eq_some_iff.1 hx).1 x hx)
/-- The keys of the first k names. -/
def keys (l:List Ent) (k:Nat):List Lit:=(l.take k).map fun x=>.string x.1.data.toList
def Sn {H:Type} (l:List Ent) (k:Nat):DataW H:=setOf (.agg []) (keys l k)
theorem Sn_zero {H:Type} (l:List Ent):Sn (H:=H) l 0 = .map []:=by simp [Sn,keys,setOf]
theorem Sn_succ {H:Type} {l:List Ent} {k:Nat} {x:Ent} (h:l[k]? = some x):Sn (H:=H) l (k + 1) = (Sn l k).put (.string x.1.data.toList) (.agg []):=by
  unfold Sn keys
  rw [List.take_add_one,List.map_append,h]
  exact setOf_snoc _ _ _
theorem fold_size : ∀ (xs acc : List Lit), (∀ x ∈ xs, WideAt.IsKeyLit x) → (xs.foldl addKey acc).length ≤ acc.length + xs.length ∧ ((xs.foldl addKey acc).length = acc.length + xs.length ↔ xs.Nodup ∧ ∀ x ∈ xs, x ∉ acc)
  | [],acc,_=>by simp
  | x :: r, acc, h => by
    have hk:=h x (by simp)
    have hr:=fun y hy=>h y (List.mem_cons_of_mem x hy)
    rw [List.foldl_cons]
    by_cases hm:x∈acc
    · have e : addKey acc x = acc := by
        unfold addKey
        have ha:acc.any (fun y=>y.sameKey x) = true:=List.any_eq_true.2 ⟨x,hm,WideAt.sameKey_self hk⟩
        exact if_pos ha
      have ih:=fold_size r acc hr
      rw [e]
      refine ⟨by simp;omega,fun h'=>?_,fun h'=>absurd hm (h'.2 x (by simp))⟩
      simp at h'
      omega
    · have e : addKey acc x = acc ++ [x] := by
        unfold addKey
        rw [if_neg]
        intro h'
        obtain ⟨y,hy,hs⟩:=List.any_eq_true.1 h'
        exact hm (WideAt.sameKey_eq hs ▸ hy)
      have ih:=fold_size r (acc ++ [x]) hr
      rw [e]
      simp only [List.length_append,List.length_cons,List.length_nil] at ih ⊢
      refine ⟨by omega,?_⟩
      rw [show acc.length + (r.length + 1) = acc.length + (0 + 1) + r.length by omega,ih.2,List.nodup_cons]
      constructor
      · rintro ⟨h1, h2⟩
        refine ⟨⟨fun hx=>(h2 x hx) (by simp),h1⟩,fun y hy=>?_⟩
        rcases List.mem_cons.1 hy with rfl | hy
        · exact hm
        · exact fun h3=>h2 y hy (by simp [h3])
      · rintro ⟨⟨h0, h1⟩, h2⟩
        refine ⟨h1,fun y hy h3=>?_⟩
        rcases List.mem_append.1 h3 with h3 | h3
        · exact h2 y (by simp [hy]) h3
        · simp at h3
          subst h3
          exact h0 hy
theorem nodup_inj {α β:Type} {f:α->β} (hf:∀ a b,f a = f b->a = b):∀ l:List α,(l.map f).Nodup ↔ l.Nodup
  | []=>by simp
  | x :: r => by
    rw [List.map_cons,List.nodup_cons,List.nodup_cons,nodup_inj hf r]
    constructor
    · rintro ⟨h1, h2⟩
      exact ⟨fun h=>h1 (List.mem_map_of_mem h),h2⟩
    · rintro ⟨h1, h2⟩
      refine ⟨fun h=>?_,h2⟩
      obtain ⟨y,hy,e⟩:=List.mem_map.1 h
      exact h1 (hf _ _ e ▸ hy)
theorem size_all (l:List Ent):Maps.size (Sn (H:=Unit) l l.length)<=l.length/\(Maps.size (Sn (H:=Unit) l l.length) = l.length ↔ apart l):=by
  have hk:∀ x∈keys l l.length,WideAt.IsKeyLit x:=fun x hx=>by
    obtain ⟨y,_,rfl⟩:=List.mem_map.1 hx
    trivial
  have hl:(keys l l.length).length = l.length:=by simp [keys]
  have:=fold_size (keys l l.length) [] hk
  unfold Sn
  rw [size_setOf _ _ hk]
  simp only [List.length_nil,Nat.zero_add,hl,List.not_mem_nil,not_false_eq_true,implies_true,and_true] at this
  refine ⟨this.1,this.2.trans ?_⟩
  unfold apart keys
  rw [List.take_length,← nodup_inj (f:=fun s:ByteArray=>Lit.string s.data.toList) (fun a b h=>?_) (l.map (·.1)),List.map_map]
  · rfl
  · cases a
    cases b
    simp at h
    simp [h]
theorem err_all {l:List Ent} {next:Int} (hn:0<=next/\next<=1099511627776) (hp:Pre next l l.length):err l next = if Maps.size (Sn (H:=Unit) l l.length) < l.length then 4 else 0:=by
  have:=size_all l
  by_cases h:apart l
  · rw [err_ok ⟨hn, hp, h⟩, if_neg]
    have:=this.2.2 h
    omega
  · rw [err_no fun hr => h hr.2.2, if_pos]
    have h2:=this.1
    have h3:¬ Maps.size (Sn (H:=Unit) l l.length) = l.length:=fun e=>h (this.2.1 e)
    omega
end Fo
end Go.Proofs.YtggoccfddnpelaaGreat
namespace Go.Proofs.YtggoccfddnpelaaGreat
open Go.ChangeShapes Go.WideShapes Go.ChangeAt Go.RowKit Go.Deep
set_option maxRecDepth 100000
theorem fwithin_any (lo x hi:Int) (w:World):Calls Tryz.prog 148 #[.int .i64 lo,.int .i64 x,.int .i64 hi] w fun e w'=>e = .returned (.bool (decide (lo<=x/\x<=hi)))/\w' = w:=by
  by_cases h1:lo<=x
  · by_cases h2 : x ≤ hi
    · rw [decide_eq_true (show lo ≤ x ∧ x ≤ hi from ⟨h1, h2⟩)]
      go_enter Tryz.func148,Tryz.ntmps148
      go_wp2
      go_ret
      exact ⟨rfl,rfl⟩
    · rw [decide_eq_false (show ¬ (lo ≤ x ∧ x ≤ hi) from fun h => h2 h.2)]
      go_enter Tryz.func148,Tryz.ntmps148
      go_wp2
      go_ret
      exact ⟨rfl,rfl⟩
  · rw [decide_eq_false (show ¬ (lo ≤ x ∧ x ≤ hi) from fun h => h1 h.1)]
    go_enter Tryz.func148,Tryz.ntmps148
    go_wp2
    go_ret
    exact ⟨rfl,rfl⟩
theorem fwithin_yes (lo x hi:Int) (w:World) (h:lo<=x/\x<=hi):Calls Tryz.prog 148 #[.int .i64 lo,.int .i64 x,.int .i64 hi] w fun e w'=>e = .returned (.bool true)/\w' = w:=by
  have:=fwithin_any lo x hi w
  rwa [decide_eq_true h] at this
theorem fwithin_no (lo x hi:Int) (w:World) (h:¬ (lo<=x/\x<=hi)):Calls Tryz.prog 148 #[.int .i64 lo,.int .i64 x,.int .i64 hi] w fun e w'=>e = .returned (.bool false)/\w' = w:=by
  have:=fwithin_any lo x hi w
  rwa [decide_eq_false h] at this
abbrev BHf (no gen:Int):Obj:=.cells #[.int .i64 no,.int .i64 gen] 55
abbrev VHf (no gen:Int):Value:=.agg #[.int .i64 no,.int .i64 gen]
theorem rightTo_any (no gen:Int) (w:World):Calls Tryz.prog 150 #[VHf no gen] w fun e w'=>e = .returned (.bool (decide (Ho no gen)))/\w' = w.alloc (BHf no gen):=by
  by_cases h1:0<=no/\no<=23
  · by_cases h2 : 1 ≤ gen ∧ gen ≤ 1099511627776
    · rw [decide_eq_true (show Ho no gen from ⟨h1, h2⟩)]
      have H:Hid ((0<=no/\no<=23)/\(1<=gen/\gen<=1099511627776)):=⟨h1,h2⟩
      clear h1 h2
      go_enter Tryz.func150,Tryz.ntmps150
      go_wp2_with fail
      refine (fwithin_yes _ _ _ _ H.out.1).mono ?_
      rintro e w' ⟨rfl,rfl⟩
      go_wp2_with fail
      refine (fwithin_yes _ _ _ _ H.out.2).mono ?_
      rintro e w' ⟨rfl,rfl⟩
      go_wp2
      go_ret
      exact ⟨rfl,rfl⟩
    · rw [decide_eq_false (show ¬ Ho no gen from fun h => h2 h.2)]
      have H:Hid ((0<=no/\no<=23)/\¬ (1<=gen/\gen<=1099511627776)):=⟨h1,h2⟩
      clear h1 h2
      go_enter Tryz.func150,Tryz.ntmps150
      go_wp2_with fail
      refine (fwithin_yes _ _ _ _ H.out.1).mono ?_
      rintro e w' ⟨rfl,rfl⟩
      go_wp2_with fail
      refine (fwithin_no _ _ _ _ H.out.2).mono ?_
      rintro e w' ⟨rfl,rfl⟩
      go_wp2
      go_ret
      exact ⟨rfl,rfl⟩
  · rw [decide_eq_false (show ¬ Ho no gen from fun h => h1 h.1)]
    have H:Hid (¬ (0<=no/\no<=23)):=h1
    clear h1
    go_enter Tryz.func150,Tryz.ntmps150
    go_wp2_with fail
    refine (fwithin_no _ _ _ _ H.out).mono ?_
    rintro e w' ⟨rfl,rfl⟩
    go_wp2
    go_ret
    exact ⟨rfl,rfl⟩
theorem toList_ne {s:ByteArray} {a:Array UInt8} (h:s≠⟨a⟩):¬ s.toList = a.toList:=fun e=>h (by
  rw [ByteArray.toList_eq] at e
  cases s
  simp at e
  rw [e])
theorem below_iter {w:World} (s:ByteArray) (p:Nat):Below w.heap.size w (w.iter s p):=(Below.refl _ w).alloc (Nat.le_refl _) _
set_option maxHeartbeats 1000000 in
theorem name_any (s : ByteArray) (w : World) (hm : s.size ≤ maxLen) : Calls Tryz.prog 149 #[.string s] w fun e w' => e = .returned (.int .i64 (Nm.err s)) ∧ Below w.heap.size w w' := by
  unfold maxLen at hm
  by_cases h1:1<=(s.size:Int)/\(s.size:Int)<=32
  · have H1 : Hid (1 ≤ (s.size : Int) ∧ (s.size : Int) ≤ 32) := h1
    by_cases h2:s = ⟨#[46]⟩
    · have H : Hid (Nm.err s = 409) := Nm.err_no fun h => h.2.2.1 h2
      rw [H.out]
      subst h2
      go_enter Tryz.func149,Tryz.ntmps149
      go_wp2_with fail
      refine (fwithin_yes _ _ _ _ H1.out).mono ?_
      rintro e w' ⟨rfl,rfl⟩
      go_wp2
      go_ret
      exact ⟨rfl,Below.refl _ _⟩
    · by_cases h3 : s = ⟨#[46, 46]⟩
      · have H : Hid (Nm.err s = 409) := Nm.err_no fun h => h.2.2.2.1 h3
        rw [H.out]
        subst h3
        go_enter Tryz.func149,Tryz.ntmps149
        go_wp2_with fail
        refine (fwithin_yes _ _ _ _ H1.out).mono ?_
        rintro e w' ⟨rfl,rfl⟩
        go_wp2
        go_ret
        exact ⟨rfl,Below.refl _ _⟩
      · have H2 : Hid (s ≠ ⟨#[46]⟩ ∧ s ≠ ⟨#[46, 46]⟩) := ⟨h2, h3⟩
        have e2:(s.toList == [46]) = false:=beq_eq_false_iff_ne.2 (toList_ne h2)
        have e3:(s.toList == [46,46]) = false:=beq_eq_false_iff_ne.2 (toList_ne h3)
        clear h1 h2 h3
        go_enter Tryz.func149,Tryz.ntmps149
        go_wp2_with fail
        refine (fwithin_yes _ _ _ _ H1.out).mono ?_
        rintro e w' ⟨rfl,hw⟩
        obtain rfl:w = w':=hw.symm
        go_wp2
        go_loopw [4] (fun _ wr=>∃ pos:Nat,pos<=s.size/\wr = w.iter s pos/\Nm.clean s pos) (fun _ wr=>s.size - wr.iterPos w.heap.size)
        case atStart=>exact ⟨0,Nat.zero_le _,rfl,Nm.clean_zero s⟩
        case round =>
          obtain ⟨pos,hps,rfl,hc⟩:=hrel
          have HC:Hid (Nm.clean s pos):=hc
          clear hc
          by_cases hp:pos < s.size
          · have hnext : ∀ ty, (Instr.next (.pointer (some ⟨w.heap.size, 0, none⟩)) true ty).run Tryz.prog (w.iter s pos) = _ := fun ty => run_next_any w s pos ty hp
            obtain ⟨hd1,hd2,-⟩:=Nm.decode_skip s pos hp
            obtain ⟨q1,q2⟩:=Nm.decode_bad s pos hp
            have HJ:Hid ((Utf8.decode s pos).1≠47->(Utf8.decode s pos).1≠0->Nm.clean s (pos + (Utf8.decode s pos).2)):=fun a b=>Nm.clean_jump hp HC.out a b
            have HB:Hid ((Utf8.decode s pos).1 = 47∨(Utf8.decode s pos).1 = 0->Nm.err s = 409):=fun a=>Nm.err_no (Nm.clean_bad hp (a.imp q1.1 q2.1))
            clear q1 q2
            generalize Utf8.decode s pos = d at *
            obtain ⟨r,k⟩:=d
            simp only at *
            by_cases r1:r = 47
            · subst r1
              have H:Hid (Nm.err s = 409):=HB.out (.inl rfl)
              go_wp2
              go_ret
              rw [H.out]
              exact ⟨rfl,below_iter s _⟩
            · by_cases r0 : r = 0
              · subst r0
                have H:Hid (Nm.err s = 409):=HB.out (.inr rfl)
                go_wp2
                go_ret
                rw [H.out]
                exact ⟨rfl,below_iter s _⟩
              · have t1 : ((r : Int) == 47) = false := beq_eq_false_iff_ne.2 (by omega)
                have t0:((r:Int) == 0) = false:=beq_eq_false_iff_ne.2 (by omega)
                have HK:Hid (Nm.clean s (pos + k)):=HJ.out r1 r0
                go_wp2
                go_roundw
                case rel=>exact ⟨pos + k,hd2,rfl,HK.out⟩
                case measure =>
                  simp only [World.iterPos_iter]
                  omega
          · have hnext : ∀ ty, (Instr.next (.pointer (some ⟨w.heap.size, 0, none⟩)) true ty).run Tryz.prog (w.iter s pos) = _ := fun ty => run_next_end w s pos ty hp
            have H:Hid (Nm.err s = 0):=Nm.err_ok ⟨by have:=H1.out.1;omega,by have:=H1.out.2;omega,H2.out.1,H2.out.2,by
              have:=HC.out
              rwa [show pos = s.size by omega] at this⟩
            go_wp2
            go_ret
            rw [H.out]
            exact ⟨rfl,below_iter s _⟩
  · have H : Hid (Nm.err s = 409) := Nm.err_no fun h => h1 ⟨by have := h.1; omega, by have := h.2.1; omega⟩
    have H1:Hid (¬ (1<=(s.size:Int)/\(s.size:Int)<=32)):=h1
    rw [H.out]
    clear h1
    go_enter Tryz.func149,Tryz.ntmps149
    go_wp2_with fail
    refine (fwithin_no _ _ _ _ H1.out).mono ?_
    rintro e w' ⟨rfl,rfl⟩
    go_wp2
    go_ret
    exact ⟨rfl,Below.refl _ _⟩
end Go.Proofs.YtggoccfddnpelaaGreat
