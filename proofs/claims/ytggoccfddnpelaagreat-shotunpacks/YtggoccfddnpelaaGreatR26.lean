/- NUl, NRm, NRn, NPt, NLk, BPlain, BFields, BBase, BIter, BOwn, BPlainR, NRd, BCut, NCu, BWrite, BEnd, NWr, YMp, NUn, NDy, NDo, OPlainB, NOr0, Sb, as one. -/
import Derived.Test.YtggoccfddnpelaaGreatR23
import Derived.Maps.AppendAt
import Derived.Maps.OwnOps
import Derived.Test.YtggoccfddnpelaaGreatR25
namespace Go.Proofs.YtggoccfddnpelaaGreat
open Go.ChangeShapes Go.WideShapes Go.ChangeAt Go.RowKit Go.Deep It
set_option maxRecDepth 100000
namespace Nf
noncomputable def unT (L:List Ino) (O:List Os.Opn) (a b:Int) (s:ByteArray) (st:Int):List Ino:=if Sp.ulE (Sp.chk Sp.isSp) L a b s st = 0 then reT (Sp.ulT (Sp.chk Sp.isSp) L a b s st) O (Sp.ulH (Sp.chk Sp.isSp) L a b s st) else L
end Nf
namespace Nf
noncomputable def rdT (L:List Ino) (a b:Int) (s:ByteArray) (st:Int):List Ino:=if Sp.rmE (Sp.chk Sp.isSp) L a b s st = 0 then Sp.rmT (Sp.chk Sp.isSp) L a b s st else L
end Nf
namespace Nf
noncomputable def rnT (L:List Ino) (a b:Int) (s:ByteArray) (c d:Int) (s2:ByteArray) (st:Int):List Ino:=if Sp.rnE (Sp.chk Sp.isSp) Sp.insB L a b s c d s2 st = 0 then Sp.rnT (Sp.chk Sp.isSp) Sp.insB L a b s c d s2 st else L
end Nf
namespace Nf
noncomputable def ptT (L:List Ino) (a b:Int) (x:Ino):List Ino:=if putErr L a b x = 0 then putTab L a b x else L
end Nf
namespace Nf
noncomputable def lkE (L:List Ino) (c:Cal) (dn:Int):Int:=Sp.linkE (Sp.chk Sp.isSp) L c.no c.gen c.no2 c.gen2 c.nm dn
noncomputable def lkT (L:List Ino) (c:Cal) (dn:Int):List Ino:=if lkE L c dn = 0 then Sp.linkT (Sp.chk Sp.isSp) L c.no c.gen c.no2 c.gen2 c.nm dn else L
end Nf
end Go.Proofs.YtggoccfddnpelaaGreat
namespace Go.Proofs.YtggoccfddnpelaaGreat.Bs
set_option maxRecDepth 100000
namespace Bl
abbrev R:=Int × ByteArray
def d0:R:=(0,⟨#[]⟩)
def txt (l:List UInt8):ByteArray:=⟨l.toArray⟩
def bs (r:R):List UInt8:=r.2.data.toList
theorem txt_size (l:List UInt8):(txt l).size = l.length:=by simp [txt,ByteArray.size]
theorem txt_append (a b:List UInt8):txt a ++ txt b = txt (a ++ b):=ByteArray.mk_append_mk a b
theorem size_append (a b:ByteArray):(a ++ b).size = a.size + b.size:=by simp
theorem extract_txt (s:ByteArray) (a b:Nat):s.extract a b = txt ((s.data.toList.drop a).take (b - a)):=by
  cases s with
  | mk d =>
    simp only [txt]
    apply ByteArray.ext
    simp only [ByteArray.data_extract]
    rw [← Array.toList_inj]
    simp [Array.toList_extract,List.extract_eq_take_drop]
def rend (r:R):Int:=r.1 + r.2.size
abbrev MAX:Int:=1048576
/-- Right runs behind a place. -/
def right (last:Int):List R->Prop
  | []=>True
  | r :: l=>(r.2.size≠0/\last < r.1/\r.1 + r.2.size<=MAX)/\right (rend r) l
instance instRight:∀ (last:Int) (l:List R),Decidable (right last l)
  | _,[]=>.isTrue trivial
  | _,r :: l=>@instDecidableAnd _ _ inferInstance (instRight (rend r) l)
def lastEnd (a:Int):List R->Int
  | []=>a
  | r :: l=>lastEnd (rend r) l
theorem lastEnd_append (l m:List R):∀ a,lastEnd a (l ++ m) = lastEnd (lastEnd a l) m:=by
  induction l with
  | nil=>intro a;rfl
  | cons r l ih=>intro a;exact ih _
theorem right_append (l m:List R):∀ a,right a (l ++ m) ↔ right a l/\right (lastEnd a l) m:=by
  induction l with
  | nil=>intro a;simp [right,lastEnd]
  | cons r l ih =>
    intro a
    have h:=ih (rend r)
    show (_/\right (rend r) (l ++ m)) ↔ (_/\right (rend r) l)/\right (lastEnd (rend r) l) m
    rw [h]
    exact (and_assoc (a:=_/\_/\_)).symm
theorem right_lastEnd {l:List R}:∀ {a:Int},right a l->a<=lastEnd a l:=by
  induction l with
  | nil=>intro a _;exact Int.le_refl _
  | cons r l ih =>
    intro a h
    have:=ih h.2
    have h1:=h.1
    show a<=lastEnd (rend r) l
    unfold rend at *
    omega
theorem right_mem {l:List R}:∀ {a:Int},right a l->∀ r∈l,r.2.size≠0/\a < r.1/\rend r<=MAX:=by
  induction l with
  | nil=>intro a _ r hr;cases hr
  | cons s l ih =>
    intro a h r hr
    rcases List.mem_cons.1 hr with rfl | hr
    · exact ⟨h.1.1,h.1.2.1,h.1.2.2⟩
    · have := ih h.2 r hr
      have h1:=h.1
      unfold rend at *
      exact ⟨this.1,by omega,this.2.2⟩
theorem right_length {l:List R}:∀ {a:Int},right a l->a<=MAX->(l.length:Int)<=MAX - a:=by
  induction l with
  | nil=>intro a _ ha;simp;omega
  | cons s l ih =>
    intro a h ha
    have h1:=h.1
    have:=ih h.2 (by unfold rend;omega)
    simp only [List.length_cons]
    unfold rend at *
    omega
/-- The bytes at places that rise from p on. -/
def onesFrom (p:Int):List UInt8->List (Int × UInt8)
  | []=>[]
  | b :: l=>(p,b) :: onesFrom (p + 1) l
def one (r:R):List (Int × UInt8):=onesFrom r.1 (bs r)
def ones (l:List R):List (Int × UInt8):=l.flatMap one
/-- What a run has from a place on up to another one. -/
def clip (a b:Int) (r:R):Option R :=
  if max r.1 a < min (rend r) b then some (max r.1 a,r.2.extract (max r.1 a - r.1).toNat (min (rend r) b - r.1).toNat) else none
def within (a b:Int) (l:List R):List R:=l.filterMap (clip a b)
/-- A run set behind others: one that touches the last becomes part of it. -/
def join (l:List R) (r:R):List R :=
  match l.getLast? with
  | none=>[r]
  | some s=>if rend s = r.1 then l.dropLast ++ [(s.1,s.2 ++ r.2)] else l ++ [r]
theorem snoc_cases (l:List R):l = []∨∃ m s,l = m ++ [s]:=by
  rcases List.eq_nil_or_concat l with h | ⟨m,s,h⟩
  · exact .inl h
  · exact .inr ⟨m,s,by simpa using h⟩
def joins (l xs:List R):List R:=xs.foldl join l
/-- How many bytes; how many runs. -/
def total (l:List R):Nat:=(l.map fun r=>r.2.size).sum
theorem right_total {l:List R}:∀ {a:Int},right a l->a<=MAX->(total l:Int) + l.length<=MAX - a:=by
  induction l with
  | nil=>intro a _ ha;simp [total];omega
  | cons s l ih =>
    intro a h ha
    have h1:=h.1
    have:=ih h.2 (by unfold rend;omega)
    simp only [total,List.map_cons,List.sum_cons,List.length_cons] at this ⊢
    unfold rend at *
    omega
/-- Runs with bytes written. -/
def parts (l:List R) (at_:Int) (d:ByteArray):List R:=within 0 at_ l ++ (if d.size = 0 then [] else [(at_,d)]) ++ within (at_ + d.size) MAX l
def write (l:List R) (at_:Int) (d:ByteArray):List R:=joins [] (parts l at_ d)
/-- The byte at a place. -/
def look (c:UInt8) (p:Int) (l:List (Int × UInt8)):UInt8:=l.foldl (fun c q=>if q.1 = p then q.2 else c) c
end Bl
end Go.Proofs.YtggoccfddnpelaaGreat.Bs
namespace Go.Proofs.YtggoccfddnpelaaGreat.Bs
open Go.ChangeShapes Go.WideShapes Go.ChangeAt Go.RowKit Go.Deep
set_option maxRecDepth 100000
/-- The value v stands for the list l of fields, whose cells lie below block number B. -/
def FieldsAt (B : Nat) (w : World) (v : Value) (l : List (Int × ByteArray)) : Prop :=
  (∃ ao cap,v = .slice ao 0 cap/\l = []) ∨
  (∃ b off cap,v = .slice (some ⟨b,off,none⟩) l.length cap/\b < B/\0 < l.length/\l.length<=cap/\cap<=maxLen /\
    ∀ i,i < l.length->w.cell? ⟨b,off + i * 2,none⟩ = some (.int .i64 (l.getD i (0,.empty)).1)/\w.cell? ⟨b,off + i * 2 + 1,none⟩ = some (.string (l.getD i (0,.empty)).2))
theorem FieldsAt.below {B C:Nat} {w w':World} {v:Value} {l:List (Int × ByteArray)} (h:FieldsAt B w v l) (hb:Below C w w') (hC:B<=C):FieldsAt B w' v l:=by
  rcases h with h | ⟨b,off,cap,hv,hB,hp,hc,hm,hx⟩
  · exact .inl h
  · refine .inr ⟨b, off, cap, hv, hB, hp, hc, hm, fun i hi => ?_⟩
    rw [hb.cell (p:=⟨b,off + i * 2,none⟩) (by show b < C;omega),hb.cell (p:=⟨b,off + i * 2 + 1,none⟩) (by show b < C;omega)]
    exact hx i hi
theorem FieldsAt.mono {B C:Nat} {w:World} {v:Value} {l:List (Int × ByteArray)} (h:FieldsAt B w v l) (hC:B<=C):FieldsAt C w v l:=by
  rcases h with h | ⟨b,off,cap,hv,hB,hp,hc,hm,hx⟩
  · exact .inl h
  · exact .inr ⟨b,off,cap,hv,by omega,hp,hc,hm,hx⟩
/-- What reads as fields: each tag an int, each value a string that can be. -/
def okFields (l:List (Int × ByteArray)):Prop:=∀ x∈l,(-9223372036854775808<=x.1/\x.1<=9223372036854775807)/\x.2.size<=maxLen
theorem okFields.at {l:List (Int × ByteArray)} (h:okFields l) {i:Nat} (hi:i < l.length):(-9223372036854775808<=(l.getD i (0,.empty)).1/\(l.getD i (0,.empty)).1<=9223372036854775807)/\(l.getD i (0,.empty)).2.size<=maxLen:=by
  have:l.getD i (0,.empty)∈l:=by simp [List.getD,hi]
  exact h _ this
/-- An own row of fields, as a list. -/
def cellsOf (l:List (Int × ByteArray)):List Value:=l.flatMap fun x=>[.int .i64 x.1,.string x.2]
theorem cellsOf_append (l m:List (Int × ByteArray)):cellsOf (l ++ m) = cellsOf l ++ cellsOf m:=by simp [cellsOf]
theorem cellsOf_at (l:List (Int × ByteArray)):∀ i,i < l.length->(cellsOf l)[i * 2]? = some (.int .i64 (l.getD i (0,.empty)).1)/\(cellsOf l)[i * 2 + 1]? = some (.string (l.getD i (0,.empty)).2):=by
  induction l with
  | nil=>intro i hi;simp at hi
  | cons x l ih =>
    intro i hi
    match i,hi with
    | 0,_=>simp [cellsOf]
    | i + 1, hi =>
      have:=ih i (by simpa using hi)
      have e:cellsOf (x :: l) = .int .i64 x.1 :: .string x.2 :: cellsOf l:=by simp [cellsOf]
      rw [e,show (i + 1) * 2 = i * 2 + 1 + 1 from by omega]
      simpa using this
theorem FieldsAt.of_own {base:Nat} {w:World} {v:Value} {e:TypeId} {l:List (Int × ByteArray)} (h:w.ownsRow base e 2 v l.length (cellsOf l)):FieldsAt w.heap.size w v l:=by
  have hlt:=h.lt
  rcases h.2 with ⟨rfl,hn⟩ | ⟨g,cap,cur,rfl,hbg,hg,hnc,hcm,hcs,htake⟩
  · exact .inl ⟨none,0,rfl,List.eq_nil_of_length_eq_zero hn⟩
  · by_cases hp : 0 < l.length
    · refine .inr ⟨g, 0, cap, rfl, (hlt g rfl).2, hp, hnc, hcm, fun i hi => ?_⟩
      have h0:=h.cells (g:=g) rfl (i * 2) _ (cellsOf_at l i hi).1
      have h1:=h.cells (g:=g) rfl (i * 2 + 1) _ (cellsOf_at l i hi).2
      rw [WideShapes.add_plain] at h0 h1
      exact ⟨h0,by rw [Nat.add_assoc];exact h1⟩
    · have : l = [] := List.eq_nil_of_length_eq_zero (by omega)
      subst this
      exact .inl ⟨_,_,rfl,rfl⟩
theorem FieldsAt.open {B:Nat} {w:World} {v:Value} {l:List (Int × ByteArray)} (h:FieldsAt B w v l):∃ ao cap,v = .slice ao l.length cap/\l.length<=maxLen/\∀ j,j < l.length->∃ b off,ao = some ⟨b,off,none⟩/\b < B/\w.cell? ⟨b,off + j * 2,none⟩ = some (.int .i64 (l.getD j (0,.empty)).1)/\w.cell? ⟨b,off + j * 2 + 1,none⟩ = some (.string (l.getD j (0,.empty)).2):=by
  rcases h with ⟨ao,cap,rfl,rfl⟩ | ⟨b,off,cap,rfl,hlt,_,hc,hm,hx⟩
  · exact ⟨ao,cap,rfl,by simp,fun j hj=>by simp at hj⟩
  · exact ⟨_,cap,rfl,by omega,fun j hj=>⟨b,off,rfl,hlt,hx j hj⟩⟩
theorem grown_trans {a b c:World} {row:Option Nat} (h:a.grownBy b row) (k:b.grownBy c row):a.grownBy c row :=
  ⟨k.os.trans h.os,k.tape.trans h.tape,k.output.trans h.output,Nat.le_trans h.size k.size,fun i hi hr=>(k.block i (Nat.lt_of_lt_of_le hi h.size) hr).trans (h.block i hi hr)⟩
theorem below_none {B:Nat} {w w':World} (h:w.grownBy w' none) (hs:B<=w.heap.size):Below B w w':=(Below.refl B w).grown h hs (fun k hk=>by cases hk)
theorem two_new (W:World) (g:Nat) (hg:g = W.heap.size) (a b:Value) (T:TypeId):∀ j u,[a,b][j]? = some u->(W.alloc (.cells #[a,b] T)).cell? ((⟨g,0,none⟩:Addr).add j) = some u:=by
  subst hg
  intro j u hj
  rw [Go.WideShapes.add_plain]
  match j,hj with
  | 0,hj=>simp at hj;subst hj;simp
  | 1,hj=>simp at hj;subst hj;simp
theorem one2 (a:Int) (s:ByteArray):∀ u∈[Value.int .i64 a,.string s],u.oneCell' = true:=by
  intro u hu
  simp at hu
  rcases hu with rfl | rfl <;> rfl
theorem laidOut:laidOutB Tryz.prog = true:=by kernel_rfl
theorem own:ownKnob Tryz.prog.godebug = none:=by kernel_rfl
abbrev BR (a:Int) (s:ByteArray):Obj:=.cells #[.int .i64 a,.string s] 67
theorem end_any (a:Int) (s:ByteArray) (w:World) (h0:-9223372036854775808<=a) (h1:a + s.size<=9223372036854775807) :
    Calls Tryz.prog 162 #[.agg #[.int .i64 a,.string s]] w fun e w'=>e = .returned (.int .i64 (a + s.size))/\w' = w.alloc (BR a s):=by
  go_enter Tryz.func162,Tryz.ntmps162
  go_wp2
  go_ret
  exact ⟨rfl,rfl⟩
def Bl.err (l:List Bl.R):Int:=if Bl.right (-1) l then 0 else 80
theorem Bl.take_succ (l:List Bl.R) {k:Nat} (hk:k < l.length) {x:Bl.R} (hx:l.getD k (0,.empty) = x):l.take (k + 1) = l.take k ++ [x]:=by
  rw [List.take_succ_eq_append_getElem hk,← hx]
  simp [List.getD,hk]
theorem Bl.right_take_succ {l:List Bl.R} {k:Nat} (hk:k < l.length) {x:Bl.R} (hx:l.getD k (0,.empty) = x):Bl.right (-1) (l.take (k + 1)) ↔ Bl.right (-1) (l.take k)/\(x.2.size≠0/\Bl.lastEnd (-1) (l.take k) < x.1/\x.1 + x.2.size<=1048576):=by
  rw [Bl.take_succ l hk hx,Bl.right_append]
  exact ⟨fun ⟨a,b,_⟩=>⟨a,b⟩,fun ⟨a,b⟩=>⟨a,b,trivial⟩⟩
theorem Bl.right_take {l:List Bl.R} {a:Int} (h:Bl.right a l) (k:Nat):Bl.right a (l.take k):=by
  rw [← List.take_append_drop k l,Bl.right_append] at h
  exact h.1
theorem Bl.err_bad {l:List Bl.R} {k:Nat} (hk:k < l.length) {x:Bl.R} (hx:l.getD k (0,.empty) = x) (h:¬ (x.2.size≠0/\Bl.lastEnd (-1) (l.take k) < x.1/\x.1 + x.2.size<=1048576)):Bl.err l = 80:=by
  unfold Bl.err
  rw [if_neg]
  intro hr
  exact h ((Bl.right_take_succ hk hx).1 (Bl.right_take hr (k + 1))).2
theorem Bl.lastEnd_succ {l:List Bl.R} {k:Nat} (hk:k < l.length) {x:Bl.R} (hx:l.getD k (0,.empty) = x):Bl.lastEnd (-1) (l.take (k + 1)) = x.1 + x.2.size:=by
  rw [Bl.take_succ l hk hx,Bl.lastEnd_append]
  rfl
theorem Bl.lastEnd_bd {l:List Bl.R} (h:Bl.right (-1) l):-1<=Bl.lastEnd (-1) l/\Bl.lastEnd (-1) l<=1048576:=by
  refine ⟨Bl.right_lastEnd h,?_⟩
  rcases Bl.snoc_cases l with rfl | ⟨m,s,rfl⟩
  · decide
  · rw [Bl.lastEnd_append]
    exact (Bl.right_mem h s (by simp)).2.2
set_option maxHeartbeats 1000000 in
theorem check_any (v : Value) (l : List Bl.R) (w : World) (hv : FieldsAt w.heap.size w v l) (hok : okFields l) :
    Calls Tryz.prog 146 #[v] w fun e w'=>e = .returned (.int .i64 (Bl.err l))/\Below w.heap.size w w':=by
  obtain ⟨ao,cap,rfl,hm,hx⟩:=hv.open
  clear hv
  unfold maxLen at hm
  obtain ⟨n,hn⟩:∃ n,l.length = n:=⟨_,rfl⟩
  rw [hn] at hm hx ⊢
  have HN:Hid (l.length = n):=hn
  have HX:Hid (∀ j,j < n->∃ b off,ao = some ⟨b,off,none⟩/\b < w.heap.size/\w.cell? ⟨b,off + j * 2,none⟩ = some (.int .i64 (l.getD j (0,.empty)).1)/\w.cell? ⟨b,off + j * 2 + 1,none⟩ = some (.string (l.getD j (0,.empty)).2)):=hx
  have HO:Hid (okFields l):=hok
  clear hn hx hok
  go_enter Tryz.func146,Tryz.ntmps146
  go_wp2
  go_loopw [3,8] (fun t i wr=>∃ k:Nat,k<=n/\i = .int .i64 k/\t = .int .i64 (Bl.lastEnd (-1) (l.take k))/\Bl.right (-1) (l.take k)/\Below w.heap.size w wr) (fun _ i _=>n - (intOf i).toNat)
  case atStart=>exact ⟨0,Nat.zero_le _,rfl,rfl,trivial,Below.refl _ _⟩
  case round =>
    obtain ⟨k,hk,rfl,rfl,hr,hbl⟩:=hrel
    have hsz:=hbl.size
    obtain ⟨hb0,hb1⟩:=Bl.lastEnd_bd hr
    obtain ⟨la,hla⟩:∃ la,Bl.lastEnd (-1) (l.take k) = la:=⟨_,rfl⟩
    rw [hla] at hb0 hb1 ⊢
    have HLA:Hid (Bl.lastEnd (-1) (l.take k) = la):=hla
    have HR:Hid (Bl.right (-1) (l.take k)):=hr
    clear hla hr
    by_cases hlt:k < n
    · obtain ⟨b, off, rfl, hB, c0, c1⟩ := HX.out k hlt
      have hk':k < l.length:=by rw [HN.out];exact hlt
      have hof:=HO.out.at hk'
      rw [← hbl.cell (p:=⟨b,off + k * 2,none⟩) hB] at c0
      rw [← hbl.cell (p:=⟨b,off + k * 2 + 1,none⟩) hB] at c1
      obtain ⟨x,hxk⟩:∃ x,l.getD k (0,.empty) = x:=⟨_,rfl⟩
      rw [hxk] at c0 c1 hof
      have HXK:Hid (l.getD k (0,.empty) = x):=hxk
      clear hxk
      obtain ⟨xa,xs⟩:=x
      simp only at c0 c1 hof
      obtain ⟨⟨ha0,ha1⟩,hs1⟩:=hof
      unfold maxLen at hs1
      have hlt':(k:Int) < (n:Int):=by omega
      by_cases h1:xs.size = 0
      · have H : Hid (Bl.err l = 80) := Bl.err_bad hk' HXK.out (fun h => h.1 h1)
        have h1':((xs.size:Int) == 0) = true:=by simp [h1]
        clear h1
        go_wp2
        go_ret
        rw [H.out]
        exact ⟨rfl,hbl.alloc hsz _⟩
      · have h1' : ((xs.size : Int) == 0) = false := beq_eq_false_iff_ne.2 (by omega)
        by_cases h2:xa<=la
        · have H : Hid (Bl.err l = 80) := Bl.err_bad hk' HXK.out (fun h => by have := h.2.1; rw [HLA.out] at this; simp only at this; omega)
          clear h1
          go_wp2
          go_ret
          rw [H.out]
          exact ⟨rfl,hbl.alloc hsz _⟩
        · by_cases h3 : (1048576 : Int) - xs.size < xa
          · have H : Hid (Bl.err l = 80) := Bl.err_bad hk' HXK.out (fun h => by have := h.2.2; simp only at this; omega)
            clear h1
            go_wp2
            go_ret
            rw [H.out]
            exact ⟨rfl,hbl.alloc hsz _⟩
          · have H1 : Hid (¬ xs.size = 0) := h1
            clear h1
            go_wp2_with fail
            refine (end_any xa xs _ (by omega) (by omega)).mono ?_
            rintro e w1 ⟨rfl,rfl⟩
            go_wp2
            go_roundw
            case rel=>exact ⟨k + 1,by omega,by go_num,by rw [Bl.lastEnd_succ hk' HXK.out],(Bl.right_take_succ hk' HXK.out).2 ⟨HR.out,H1.out,by rw [HLA.out];simp only;omega,by simp only;omega⟩,(hbl.alloc hsz _).alloc (by simp;omega) _⟩
            case measure=>simp [intOf];omega
    · obtain rfl : k = n := by omega
      have H:Hid (Bl.err l = 0):=by
        have:=HR.out
        rw [← HN.out,List.take_length] at this
        show Bl.err l = 0
        unfold Bl.err
        rw [if_pos this]
      go_wp2
      go_ret
      rw [H.out]
      exact ⟨rfl,hbl⟩
end Go.Proofs.YtggoccfddnpelaaGreat.Bs
namespace Go.Proofs.YtggoccfddnpelaaGreat.Bs
open Go.RowKit Go.Shelf
set_option maxRecDepth 100000
attribute [local go_sem] Oper.semAt_some
/-- What lay below n₀, and the three boxes from B on, lie as they lay. -/
structure Kept (n₀ B:Nat) (W W':World):Prop where
  size:W.heap.size<=W'.heap.size
  block:∀ k,(k < n₀∨(B<=k/\k < B + 3))->k < W.heap.size->W'.heap[k]? = W.heap[k]?
theorem Kept.refl (n₀ B:Nat) (W:World):Kept n₀ B W W:=⟨Nat.le_refl _,fun _ _ _=>rfl⟩
theorem Kept.trans {n₀ B:Nat} {X Y Z:World} (h:Kept n₀ B X Y) (k:Kept n₀ B Y Z):Kept n₀ B X Z :=
  ⟨Nat.le_trans h.size k.size,fun i hi hl=>(k.block i hi (Nat.lt_of_lt_of_le hl h.size)).trans (h.block i hi hl)⟩
theorem Kept.grown {n₀ B:Nat} {W W':World} {row:Option Nat} (hg:W.grownBy W' row) (hr:∀ k,row = some k->n₀<=k/\(k < B∨B + 3<=k)):Kept n₀ B W W' :=
  ⟨hg.size,fun k hk hl=>hg.block k hl (fun e=>by have:=hr k e.symm;omega)⟩
theorem Kept.still {n₀ B:Nat} {W W':World} (hg:W.grownBy W' none):Kept n₀ B W W':=Kept.grown hg (fun k e=>by cases e)
theorem Kept.cell {n₀ B:Nat} {W W':World} (h:Kept n₀ B W W') {k o:Nat} (hk:k < n₀∨(B<=k/\k < B + 3)) (hl:k < W.heap.size):W'.cell? ⟨k,o,none⟩ = W.cell? ⟨k,o,none⟩ :=
  World.cell?_of_block (a:=⟨k,o,none⟩) (h.block k hk hl)
/-- What the iterator hands over. -/
abbrev In (a b:Int):={ x:Bl.R // a<=x.1/\Bl.rend x<=b/\0 < x.2.size }
def encs {a b:Int} (x:In a b):Array Value:=#[.agg #[.int .i64 x.1.1,.string x.1.2]]
/-- The iterator's three boxes. -/
def Three (W:World) (B:Nat) (lv:Value) (a b:Int):Prop:=Boxed W B 49 lv/\Boxed W (B + 1) 3 (.int .i64 a)/\Boxed W (B + 1 + 1) 3 (.int .i64 b)
theorem Three.kept {n₀ B:Nat} {lv:Value} {a b:Int} {W W':World} (h:Three W B lv a b) (h':Three W' B lv a b) (hb:Below n₀ W W'):Kept n₀ B W W':=by
  refine ⟨hb.size,fun k hk hl=>?_⟩
  rcases hk with hk | ⟨h1,h2⟩
  · exact hb.block k hk
  · have hk : k = B ∨ k = B + 1 ∨ k = B + 1 + 1 := by omega
    rcases hk with rfl | rfl | rfl
    · exact (show W'.heap[k]? = _ from h'.1).trans (show W.heap[k]? = _ from h.1).symm
    · exact (show W'.heap[B + 1]? = _ from h'.2.1).trans (show W.heap[B + 1]? = _ from h.2.1).symm
    · exact (show W'.heap[B + 1 + 1]? = _ from h'.2.2).trans (show W.heap[B + 1 + 1]? = _ from h.2.2).symm
theorem Three.alloc {W:World} {B:Nat} {lv:Value} {a b:Int} (h:Three W B lv a b) (o:Obj):Three (W.alloc o) B lv a b:=⟨h.1.alloc o,h.2.1.alloc o,h.2.2.alloc o⟩
theorem two_of {w:World} {b:Nat} {x y:Value} {t:TypeId} {fr:Nat × Nat} (hb:w.heap[b]? = some (.cells #[x,y] t fr)):w.cell? ⟨b,0,none⟩ = some x/\w.cell? ⟨b,1,none⟩ = some y:=by
  constructor <;> simp [World.cell?,hb]
/-- Runs within all places. -/
def Bl.low (l:List Bl.R):Prop:=∀ r∈l,0<=r.1/\Bl.rend r<=1048576
end Go.Proofs.YtggoccfddnpelaaGreat.Bs
namespace Go.Proofs.YtggoccfddnpelaaGreat.Bs
set_option maxRecDepth 100000
namespace Bl
/-- The m bytes from a place on. -/
def over (at_:Int) (m:Nat) (l:List R):List UInt8:=(List.range m).map fun (q:Nat)=>look 0 (at_ + (q:Int)) (ones l)
/-- What Read tells. -/
def rErr (l:List R) (size at_ n:Int):Int:=if right (-1) l then if size < 0∨1048576 < size∨at_ < 0∨n < 0∨512 < n then 1 else 0 else 80
end Bl
end Go.Proofs.YtggoccfddnpelaaGreat.Bs
namespace Go.Proofs.YtggoccfddnpelaaGreat
open Go.ChangeShapes Go.WideShapes Go.ChangeAt Go.RowKit Go.Deep It
set_option maxRecDepth 100000
namespace Nf
noncomputable def rdE (L:List Ino) (c:Cal):Int:=if fndE L c.no c.gen 1 405 = 0 then Bs.Bl.rErr (findI L c.no c.gen).runs (findI L c.no c.gen).size c.pl (min c.n 512) else fndE L c.no c.gen 1 405
end Nf
end Go.Proofs.YtggoccfddnpelaaGreat
namespace Go.Proofs.YtggoccfddnpelaaGreat.Bs
open Go.RowKit Go.Shelf
set_option maxRecDepth 100000
attribute [local go_sem] Oper.semAt_some
/-- What Cut tells. -/
def Bl.cErr (l:List Bl.R) (size:Int):Int:=if Bl.right (-1) l then if size < 0 then 1 else 0 else 80
def Bl.cOut (l:List Bl.R) (size:Int):List Bl.R:=if Bl.cErr l size = 0 then Bl.within 0 size l else []
end Go.Proofs.YtggoccfddnpelaaGreat.Bs
namespace Go.Proofs.YtggoccfddnpelaaGreat
open Go.ChangeShapes Go.WideShapes Go.ChangeAt Go.RowKit Go.Deep It
set_option maxRecDepth 100000
namespace Nf
/-- The inode that cut puts. -/
noncomputable def cuX (x:Ino) (c:Cal) (dn:Int):Ino:={ x with size:=c.pl,stamp:=dn,runs:=Bs.Bl.cOut x.runs c.pl }
noncomputable def gE (x:Ino) (n dn:Int):Int:=At.growErr x.kind x.links x.size x.stamp n dn
noncomputable def cuT (L:List Ino) (c:Cal) (dn:Int):List Ino :=
  if fndE L c.no c.gen 1 405 = 0 then if gE (findI L c.no c.gen) c.pl dn = 0 then ptT L c.no c.gen (cuX (findI L c.no c.gen) c dn) else L else L
end Nf
end Go.Proofs.YtggoccfddnpelaaGreat
namespace Go.Proofs.YtggoccfddnpelaaGreat.Bs
open Go.RowKit Go.Shelf
set_option maxRecDepth 100000
attribute [local go_sem] Oper.semAt_some
/-- What Write tells. -/
def Bl.wErr (l:List Bl.R) (at_:Int) (d:ByteArray):Int :=
  if Bl.right (-1) l then if at_ < 0 then 1 else if 1048576 - (d.size:Int) < at_ then 408 else 0 else 80
def Bl.wOut (l:List Bl.R) (at_:Int) (d:ByteArray):List Bl.R:=if Bl.wErr l at_ d = 0 then Bl.write l at_ d else []
end Go.Proofs.YtggoccfddnpelaaGreat.Bs
namespace Go.Proofs.YtggoccfddnpelaaGreat.Bs
open Go.ChangeShapes Go.WideShapes Go.ChangeAt Go.RowKit Go.Deep
set_option maxRecDepth 100000
namespace Bl
def endOf (l:List R):Int:=if right (-1) l then lastEnd 0 l else 0
end Bl
end Go.Proofs.YtggoccfddnpelaaGreat.Bs
namespace Go.Proofs.YtggoccfddnpelaaGreat
open Go.ChangeShapes Go.WideShapes Go.ChangeAt Go.RowKit Go.Deep It
set_option maxRecDepth 100000
namespace Fst
section
variable {P:Program} {ops:Array Oper} {Q:Exit->Act->World->Prop} {md:Region.Mode} {S:World->Prop} {late:Nat->Bool}
/-- Two may come up, behind either of which S holds still. -/
theorem both {i j:Nat} {oi oj:Oper} {n:Nat} {l:Array Bool} {a:Act} {w:World} (hr:Region.ready md ops l = [i,j]) (hi:ops[i]? = some oi) (hj:ops[j]? = some oj)
    (h1:∀ K':Act->World->Prop,(∀ a w,S w->anyL P md ops Q late S n (l.setIfInBounds i true) a w->K' a w)->if Region.wanted oi (yielded ops a.tmps) = true then Oper.wp P oi a w K' Q else K' (a.put oi.dst undef) w)
    (h2:∀ K':Act->World->Prop,(∀ a w,S w->anyL P md ops Q late S n (l.setIfInBounds j true) a w->K' a w)->if Region.wanted oj (yielded ops a.tmps) = true then Oper.wp P oj a w K' Q else K' (a.put oj.dst undef) w):anyL P md ops Q late S (n + 1) l a w:=by
  refine ⟨fun h=>(by rw [hr] at h;cases h),fun k hk=>?_⟩
  rw [hr] at hk
  rcases List.mem_cons.1 hk with rfl | hk
  · exact keep_step hi h1
  · rcases List.mem_cons.1 hk with rfl | hk
    · exact keep_step hj h2
    · cases hk
theorem done {n:Nat} {l:Array Bool} {a:Act} {w:World} (hr:Region.ready md ops l = []) (h:Q .normal a w):anyL P md ops Q late S n l a w:=by
  cases n with
  | zero=>exact ⟨hr,h⟩
  | succ n=>exact ⟨fun _=>h,fun i hi=>by rw [hr] at hi;cases hi⟩
end
end Fst
namespace Nf
noncomputable def wrO (x:Ino) (c:Cal):List (Int × ByteArray):=Bs.Bl.wOut x.runs c.pl c.data
noncomputable def wrN (x:Ino) (c:Cal):Int:=max x.size (Bs.Bl.endOf (wrO x c))
/-- The inode that write puts. -/
noncomputable def wrX (x:Ino) (c:Cal) (dn:Int):Ino:=if gE x (wrN x c) dn = 0 then { x with size:=wrN x c,stamp:=dn,runs:=wrO x c } else { x with kind:=0,links:=0,size:=0,stamp:=0,runs:=wrO x c }
/-- The bytes that there would be. -/
noncomputable def room (L:List Ino) (x:Ino) (c:Cal):Int:=wrap64 (wrap64 (allBytes L - Bl.sumw x.runs) + Bl.sumw (wrO x c))
noncomputable def wrT (L:List Ino) (c:Cal) (dn:Int):List Ino :=
  if fndE L c.no c.gen 1 405≠0 then L
  else if 512 < c.data.size then L
  else if Bs.Bl.wErr (findI L c.no c.gen).runs c.pl c.data≠0 then L
  else if c.data.size = 0 then L
  else if 8192 < room L (findI L c.no c.gen) c then L
  else ptT L c.no c.gen (wrX (findI L c.no c.gen) c dn)
end Nf
end Go.Proofs.YtggoccfddnpelaaGreat
namespace Go.Proofs.YtggoccfddnpelaaGreat.Ym
open Go.ChangeShapes Go.WideShapes Go.ChangeAt Go.RowKit Go.Deep
set_option maxRecDepth 100000
/-- The map's rows: each has its key, a value, and was laid at its own time. -/
structure IM (w:World) (r:Nat) (M:List (Int × Value)):Prop where
  out:∃ es clock,w.heap[r]? = some (.map es clock)/\es.toList.map (fun e=>(e.key,e.val)) = M.map (fun p=>(.int .i64 p.1,p.2))/\(es.toList.map (·.born)).Nodup/\∀ b∈es.toList.map (·.born),b < clock
section
variable {mt et:TypeId} (hmt:Tryz.prog.underlying mt = some (.map 3 et))
include hmt
omit hmt
include hmt
omit hmt
include hmt
omit hmt
theorem IM.kept {w w':World} {r:Nat} {M:List (Int × Value)} (h:IM w r M) (hk:w'.heap[r]? = w.heap[r]?):IM w' r M:=by
  obtain ⟨es,clock,hr,h1⟩:=h.out
  exact ⟨es,clock,hk.trans hr,h1⟩
theorem IM.lt {w:World} {r:Nat} {M:List (Int × Value)} (h:IM w r M):r < w.heap.size:=by
  obtain ⟨es,clock,hr,_⟩:=h.out
  exact (Array.getElem?_eq_some_iff.1 hr).1
theorem IM.new (w:World):IM (w.alloc (.map #[] 0)) w.heap.size []:=⟨#[],0,World.alloc_heap_new w _,rfl,by simp,fun b hb=>by simp at hb⟩
include hmt
omit hmt
end
section
variable {mt et:TypeId} (hmt:Tryz.prog.underlying mt = some (.map 3 et))
variable {ops:Array Oper} {rest:List Oper} {o:Oper} {a:Act} {Q:Exit->Act->World->Prop}
include hmt
omit hmt
end
end Go.Proofs.YtggoccfddnpelaaGreat.Ym
namespace Go.Proofs.YtggoccfddnpelaaGreat
open Go.ChangeShapes Go.WideShapes Go.ChangeAt Go.RowKit Go.Deep It
set_option maxRecDepth 100000
namespace Nf
/-- A reply as plain data. -/
structure Rpl where
  e:Int
  no:Int
  gen:Int
  kind:Int
  links:Int
  size:Int
  stamp:Int
  data:ByteArray
  ents:List Ent
  n:Int
noncomputable def makeT (L:List Ino) (c:Cal) (kind dn:Int):List Ino:=if Sp.mkE (Sp.chk Sp.isSp) L c.no c.gen c.nm kind dn = 0 then Sp.mkT (Sp.chk Sp.isSp) L c.no c.gen c.nm kind dn else L
/-- The table that it leaves. -/
noncomputable def tab (L:List Ino) (O:List Os.Opn) (dn cl:Int) (c:Cal):List Ino :=
  if c.k = 3 then makeT L c 1 dn else if c.k = 4 then makeT L c 2 dn else if c.k = 6 then wrT L c dn else if c.k = 7 then cuT L c dn else if c.k = 8 then lkT L c dn
  else if c.k = 9 then unT L O c.no c.gen c.nm dn else if c.k = 10 then rdT L c.no c.gen c.nm dn else if c.k = 11 then rnT L c.no c.gen c.nm c.no2 c.gen2 c.nm2 dn
  else if c.k = 14 then clT L O cl c.n else L
/-- The open files that it leaves. -/
noncomputable def ops (L:List Ino) (O:List Os.Opn) (cl:Int) (c:Cal):List Os.Opn :=
  if c.k = 13 then (if opE L O cl c = 0 then Os.Op.opened O cl c.no c.gen else O) else if c.k = 14 then (if Os.Op.closeErr O cl c.n = 0 then Os.Op.closed O cl c.n else O) else O
end Nf
abbrev VR (r:Nf.Rpl) (v:Value):Value:=VRp r.e r.no r.gen r.kind r.links r.size r.stamp r.data v r.n
variable {S:Nat->Prop} {vi vo:Value} {vs:Value} {dn cl:Int} {c:Cal} {L:List Rw} {B:Nat} {O:List Os.Opn} {w:World}
abbrev cS (vi vo vs:Value) (dn:Int):List Value:=[vi,vo,vs,.int .i64 dn]
abbrev BS0:Obj:=BSt (.slice none 0 0) (.slice none 0 0) (.slice none 0 0) 0
variable {S:Nat->Prop} {w V w7:World} {n2 n3 tb A:Nat} {vs:Value} {d cl:Int} {c:Cal} {R:Nf.Rpl} {T:List Ino} {Q:List Os.Opn} {ve u uo:Value} {L':List Rw}
namespace Nf
end Nf
theorem four_new (w:World) (a b c d:Obj):((((w.alloc a).alloc b).alloc c).alloc d).heap[w.heap.size]? = some a/\((((w.alloc a).alloc b).alloc c).alloc d).heap[w.heap.size + 1]? = some b/\((((w.alloc a).alloc b).alloc c).alloc d).heap[w.heap.size + 2]? = some c/\((((w.alloc a).alloc b).alloc c).alloc d).heap[w.heap.size + 3]? = some d/\Below w.heap.size w ((((w.alloc a).alloc b).alloc c).alloc d)/\((((w.alloc a).alloc b).alloc c).alloc d).heap.size = w.heap.size + 4:=by
  have s1:(w.alloc a).heap.size = w.heap.size + 1:=by simp
  have s2:((w.alloc a).alloc b).heap.size = w.heap.size + 2:=by simp
  have s3:(((w.alloc a).alloc b).alloc c).heap.size = w.heap.size + 3:=by simp
  have s4:((((w.alloc a).alloc b).alloc c).alloc d).heap.size = w.heap.size + 4:=by simp
  have e1:=heap_alloc_new w a
  have e2:=heap_alloc_new (w.alloc a) b
  have e3:=heap_alloc_new ((w.alloc a).alloc b) c
  have e4:=heap_alloc_new (((w.alloc a).alloc b).alloc c) d
  rw [s1] at e2
  rw [s2] at e3
  rw [s3] at e4
  have up:∀ (v:World) (x:Obj) (k:Nat),k < v.heap.size->(v.alloc x).heap[k]? = v.heap[k]?:=fun v x k hk=>Below.heap_alloc _ _ _ hk
  refine ⟨?_,?_,?_,e4,?_,s4⟩
  · rw [up _ _ _ (by rw [s3]; omega), up _ _ _ (by rw [s2]; omega), up _ _ _ (by rw [s1]; omega)]
    exact e1
  · rw [up _ _ _ (by rw [s3]; omega), up _ _ _ (by rw [s2]; omega)]
    exact e2
  · rw [up _ _ _ (by rw [s3]; omega)]
    exact e3
  · exact ((((Below.refl _ w).alloc (Nat.le_refl _) _).alloc (by rw [s1];omega) _).alloc (by rw [s2];omega) _).alloc (by rw [s3];omega) _
section
variable {S P:Nat->Prop} {w w5:World} {n2 n3:Nat}
end
end Go.Proofs.YtggoccfddnpelaaGreat
namespace Go.Proofs.YtggoccfddnpelaaGreat.Os
set_option maxRecDepth 100000
namespace Op
theorem right_iff : ∀ (l : List Opn) (t : Int), right t l = true ↔ (∀ x ∈ l, good t x) ∧ l.Pairwise (fun a b => a.1 < b.1)
  | [],t=>by simp [right]
  | x :: r, t => by
    rw [right,Bool.and_eq_true,decide_eq_true_iff,right_iff r,List.pairwise_cons]
    constructor
    · rintro ⟨h1, h2, h3⟩
      refine ⟨fun y hy=>?_,fun y hy=>?_,h3⟩
      · rcases List.mem_cons.1 hy with rfl | hy
        · exact h1
        · have := h2 y hy
          exact ⟨⟨by have:=this.1.1;have:=h1.1.1;omega,this.1.2⟩,this.2⟩
      · have := (h2 y hy).1.1
        omega
    · rintro ⟨h1, h2, h3⟩
      refine ⟨h1 x (by simp),fun y hy=>?_,h3⟩
      have:=h1 y (by simp [hy])
      have:=h2 y hy
      exact ⟨⟨by omega,(h1 y (by simp [hy])).1.2⟩,(h1 y (by simp [hy])).2⟩
section
variable {l:List Opn} {c no gen:Int} (he:openErr l c no gen = 0)
include he
end
end Op
end Go.Proofs.YtggoccfddnpelaaGreat.Os
namespace Go.Proofs.YtggoccfddnpelaaGreat
open It
set_option maxRecDepth 100000
namespace Nf
abbrev xA:ByteArray:=⟨#[97]⟩
abbrev xX:ByteArray:=⟨#[120]⟩
abbrev e0:ByteArray:=⟨#[]⟩
abbrev c1:Cal:=⟨3,0,1,0,0,xA,e0,0,0,e0⟩
abbrev c2:Cal:=⟨13,1,1,0,0,e0,e0,0,0,e0⟩
abbrev c3:Cal:=⟨9,0,1,0,0,xA,e0,0,0,e0⟩
abbrev c4:Cal:=⟨6,1,1,0,0,e0,e0,0,0,xX⟩
abbrev c5:Cal:=⟨14,0,0,0,0,e0,e0,0,0,e0⟩
abbrev c6:Cal:=⟨5,1,1,0,0,e0,e0,0,1,e0⟩
end Nf
end Go.Proofs.YtggoccfddnpelaaGreat
namespace Go.Proofs.YtggoccfddnpelaaGreat
open It Go.RowKit
set_option maxRecDepth 100000
set_option maxRecDepth 100000
namespace Nf
theorem wrap_id {x:Int} (h:0<=x/\x<=9223372036854775807):wrap64 x = x:=by
  unfold wrap64
  omega
theorem br:∀ (l:List (Int × ByteArray)) (a:Int),Bs.Bl.right a l ↔ Bl.right a l
  | [],_=>Iff.rfl
  | _ :: l,_=>and_congr Iff.rfl (br l _)
abbrev tot (l:List (Int × ByteArray)):Nat:=Bs.Bl.total l
theorem tot_le {l:List (Int × ByteArray)} (h:Bl.right (-1) l):(tot l:Int)<=1048577:=by
  have:(tot l:Int) + l.length<=_:=Bs.Bl.right_total ((br l _).2 h) (by decide)
  have e:Bs.Bl.MAX = 1048576:=rfl
  omega
theorem sumw_go:∀ (l:List (Int × ByteArray)) (y:Int),0<=y->y + (tot l:Int)<=9223372036854775807->l.foldl (fun y r=>wrap64 (y + (r.2.size:Int))) y = y + (tot l:Int)
  | [],y,_,_=>by simp [Bs.Bl.total]
  | r :: l, y, h0, h => by
    have e:tot (r :: l) = r.2.size + tot l:=by simp [Bs.Bl.total]
    rw [e] at h ⊢
    rw [List.foldl_cons,wrap_id (by omega),sumw_go l _ (by omega) (by omega)]
    omega
theorem sumw_tot {l:List (Int × ByteArray)} (h:Bl.right (-1) l):Bl.sumw l = (tot l:Int):=by
  have:=tot_le h
  unfold Bl.sumw
  rw [sumw_go l 0 (by omega) (by omega)]
  omega
theorem runs_right {x:Ino} (h:one x = true):Bl.right (-1) x.runs:=by
  unfold one at h
  simp only [Bool.and_eq_true] at h
  have h3:=h.2.2
  split at h3
  · rw [List.isEmpty_iff.1 h3];trivial
  · split at h3
    · simp only [Bool.and_eq_true, decide_eq_true_eq] at h3
      exact h3.1.2
    · simp only [Bool.and_eq_true] at h3
      rw [List.isEmpty_iff.1 h3.2];trivial
def By (L:List Ino):Nat:=(L.map fun x=>tot x.runs).sum
theorem By_cons (x:Ino) (L:List Ino):By (x :: L) = tot x.runs + By L:=by simp [By]
theorem all_go:∀ (L:List Ino) (y:Int),(∀ x∈L,Bl.right (-1) x.runs)->0<=y->y + L.length * 1048577<=9223372036854775807->L.foldl (fun y x=>wrap64 (y + Bl.sumw x.runs)) y = y + (By L:Int)
  | [],y,_,_,_=>by simp [By]
  | x :: L, y, hx, h0, h => by
    have h1:=hx x (by simp)
    have h2:=tot_le h1
    rw [List.length_cons] at h
    rw [List.foldl_cons,sumw_tot h1,wrap_id (by omega),all_go L _ (fun z hz=>hx z (by simp [hz])) (by omega) (by omega),By_cons]
    omega
theorem all_by {L:List Ino} (h:It.right L = true):allBytes L = (By L:Int):=by
  obtain ⟨h1,_,h3⟩:=It.right_iff.1 h
  unfold allBytes
  rw [all_go L 0 (fun x hx=>runs_right (h3 x hx)) (by omega) (by omega)]
  omega
/-- Files that a state has, and who has them open. -/
def Hl (O:List Os.Opn) (no gen:Int):Prop:=∃ o∈O,o.2.2.1 = no/\o.2.2.2 = gen
theorem held_pos {O:List Os.Opn} {no gen:Int}:0 < Os.Op.held O no gen ↔ Hl O no gen:=by
  unfold Os.Op.held Hl
  rw [List.countP_pos_iff]
  simp
def Fl (L:List Ino) (O:List Os.Opn):Prop:=(∀ o∈O,∃ (i:Nat) (x:Ino),L[i]? = some x/\o.2.2.1 = (i:Int)/\x.gen = o.2.2.2/\x.kind = 1)
def Nd (L:List Ino) (O:List Os.Opn) (q:Nat->Prop):Prop:=∀ (i:Nat) (x:Ino),L[i]? = some x->x.kind = 1->x.links<=0->¬ q i->Hl O i x.gen
theorem mem_files {L:List Ino} {no gen:Int}:(no,gen)∈files L ↔ ∃ (i:Nat) (x:Ino),L[i]? = some x/\no = (i:Int)/\x.gen = gen/\x.kind = 1:=by
  unfold files
  rw [List.mem_filter,mem_used,names_iff]
  constructor
  · rintro ⟨⟨i, x, hx, rfl, hg, hk⟩, h2⟩
    unfold fileAt at h2
    rw [show ((i:Int),gen).1.toNat = i from by show ((i:Int)).toNat = i;omega,hx] at h2
    exact ⟨i,x,hx,rfl,hg,by simpa using h2⟩
  · rintro ⟨i, x, hx, rfl, hg, hk⟩
    refine ⟨⟨i,x,hx,rfl,hg,by omega⟩,?_⟩
    unfold fileAt
    rw [show ((i:Int),gen).1.toNat = i from by show ((i:Int)).toNat = i;omega,hx]
    simpa using hk
theorem need_iff {L:List Ino} {O:List Os.Opn} {i:Nat} {x:Ino} (hx:L[i]? = some x):needB L O ((i:Int),x.gen) = true ↔ 0 < x.links∨Hl O i x.gen:=by
  unfold needB linksAt
  rw [show ((i:Int),x.gen).1.toNat = i from by show ((i:Int)).toNat = i;omega,hx]
  simp only [Bool.or_eq_true,decide_eq_true_eq]
  refine or_congr Iff.rfl ?_
  rw [← held_pos]
  omega
theorem filesOk_iff {L:List Ino} {O:List Os.Opn}:filesOk L O = true ↔ Fl L O/\Nd L O (fun _=>False):=by
  unfold filesOk
  rw [Bool.and_eq_true]
  refine and_congr ?_ ?_
  · rw [Bool.not_eq_true', List.any_eq_false]
    refine forall_congr' fun o=>forall_congr' fun ho=>?_
    simp only [Bool.not_eq_true',decide_eq_false_iff_not,Classical.not_not]
    rw [mem_files]
  · rw [Bool.not_eq_true', List.any_eq_false]
    constructor
    · intro h i x hx hk hl _
      have h1:=h ((i:Int),x.gen) (mem_files.2 ⟨i,x,hx,rfl,rfl,hk⟩)
      simp only [Bool.not_eq_true',Bool.not_eq_false] at h1
      rcases (need_iff hx).1 h1 with h2 | h2
      · omega
      · exact h2
    · intro h p hp
      obtain ⟨no,gen⟩:=p
      obtain ⟨i,x,hx,rfl,rfl,hk⟩:=mem_files.1 hp
      simp only [Bool.not_eq_true',Bool.not_eq_false]
      refine (need_iff hx).2 ?_
      by_cases hl:0 < x.links
      · exact .inl hl
      · exact .inr (h i x hx hk (by omega) id)
theorem doneOk_iff {L:List Ino} {dn:Int}:doneOk L dn = true ↔ (0<=dn/\dn<=1099511627776)/\∀ x∈L,x.stamp<=dn:=by
  unfold doneOk
  rw [Bool.and_eq_true,decide_eq_true_iff,Bool.not_eq_true',List.any_eq_false]
  simp only [decide_eq_true_eq,Int.not_lt]
end Nf
end Go.Proofs.YtggoccfddnpelaaGreat
