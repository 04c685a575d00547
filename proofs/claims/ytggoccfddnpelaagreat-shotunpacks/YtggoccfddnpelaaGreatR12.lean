/- FRefB, SRef5, NDel, NFil, Bytes, NByt, as one. -/
import Derived.Laws.CopyRow
import Derived.Test.YtggoccfddnpelaaGreatR11
namespace Go.Proofs.YtggoccfddnpelaaGreat
open Go.ChangeShapes Go.WideShapes Go.ChangeAt Go.RowKit Go.Deep
set_option maxRecDepth 100000
namespace Fo
/-- Of the first k names each stands there first. -/
def firsts (l:List Ent) (k:Nat):Prop:=∀ (i:Nat) x,i < k->l[i]? = some x->at' (called x.1) l = i
theorem called_iff {s:ByteArray} {x:Ent}:called s x = true ↔ x.1 = s:=by
  unfold called
  rw [beq_iff_eq,ByteArray.toList_eq,ByteArray.toList_eq]
  constructor
  · intro h
    obtain ⟨⟨⟨a⟩⟩,c⟩:=x
    obtain ⟨⟨b⟩⟩:=s
    simp only at h
    simp [h]
  · rintro rfl
    rfl
theorem first_of_apart {l:List Ent} (h:apart l) {i:Nat} {x:Ent} (hx:l[i]? = some x):at' (called x.1) l = i:=by
  refine at_hit hx (called_iff.2 rfl) fun j y hj hy=>?_
  cases hc:called x.1 y
  · rfl
  · exfalso
    have e:=called_iff.1 hc
    have hil:=(List.getElem?_eq_some_iff.1 hx)
    have hjl:=(List.getElem?_eq_some_iff.1 hy)
    have:=(List.pairwise_iff_getElem.1 h) j i (by simpa using hjl.1) (by simpa using hil.1) hj
    apply this
    simp only [List.getElem_map,hil.2,hjl.2]
    exact e
theorem apart_of_firsts {l:List Ent} (h:firsts l l.length):apart l:=by
  refine List.pairwise_iff_getElem.2 fun i j hi hj hij e=>?_
  have hj':j < l.length:=by simpa using hj
  have hx:l[i]? = some (l[i]'(by omega)):=List.getElem?_eq_getElem _
  have hy:l[j]? = some (l[j]'hj'):=List.getElem?_eq_getElem _
  have h1:=h i _ (by omega) hx
  have h2:=h j _ hj' hy
  simp only [List.getElem_map] at e
  rw [e,h2] at h1
  omega
theorem firsts_zero (l:List Ent):firsts l 0:=fun i x h=>by omega
theorem firsts_succ {l:List Ent} {k:Nat} {x:Ent} (h:firsts l k) (hx:l[k]? = some x) (hp:at' (called x.1) l = k):firsts l (k + 1):=fun i y hi hy=>by
  by_cases e:i = k
  · subst e
    rw [hx] at hy
    cases hy
    exact hp
  · exact h i y (by omega) hy
end Fo
theorem below_drewN {B:Nat} {w w':World} (h:Below B w w') (q:Nat):Below B w (w'.drewN q):=⟨h.os,h.tape,h.output,h.size,h.block⟩
set_option maxHeartbeats 4000000 in
theorem frright_any (v : Value) (l : List Ent) (next : Int) (w : World) (hv : AtW EE w v l) (hs : ∀ x ∈ l, x.1.size ≤ maxLen) :
    Calls Tryz.prog 108 #[v,.int .i64 next] w fun e w'=>e = .returned (.bool (decide (Fo.err l next = 0)))/\Below w.heap.size w w':=by
  have HV:Hid (AtW EE w v l):=hv
  obtain ⟨ao,cap,rfl,hm,hx⟩:=hv.open
  clear hv
  unfold maxLen at hm
  obtain ⟨n,hn⟩:∃ n,l.length = n:=⟨_,rfl⟩
  rw [hn] at hm HV ⊢
  have HN:Hid (l.length = n):=hn
  have HX:Hid (∀ i x,l[i]? = some x->∃ b off,ao = some ⟨b,off,none⟩/\True/\b < w.heap.size/\∀ k u,(EE.cells x)[k]? = some u->w.cell? ⟨b,off + (i * EE.sz + k),none⟩ = some u):=hx
  have HS:Hid (∀ x∈l,x.1.size<=maxLen):=hs
  clear hn hx hs
  by_cases n0:next < 0
  · have H : Hid (Fo.err l next = 4) := Fo.err_no fun h => by have := h.1.1; omega
    rw [H.out]
    go_enter Tryz.func108,Tryz.ntmps108
    go_wp2
    go_ret
    exact ⟨rfl,Below.refl _ _⟩
  by_cases n1:1099511627776 < next
  · have H : Hid (Fo.err l next = 4) := Fo.err_no fun h => by have := h.1.2; omega
    rw [H.out]
    go_enter Tryz.func108,Tryz.ntmps108
    go_wp2
    go_ret
    exact ⟨rfl,Below.refl _ _⟩
  have H1:Hid (0<=next/\next<=1099511627776):=⟨by omega,by omega⟩
  go_enter Tryz.func108,Tryz.ntmps108
  go_wp2
  go_loopw [15] (fun i wr=>∃ k:Nat,k<=n/\i = .int .i64 k/\Hid (Fo.Pre next l k/\Fo.firsts l k)/\Hid (Below w.heap.size w wr)) (fun i _=>n - (intOf i).toNat)
  case atStart=>exact ⟨0,Nat.zero_le _,rfl,⟨Fo.pre_zero _ _,Fo.firsts_zero _⟩,Below.refl _ _⟩
  case round =>
    obtain ⟨k,hk,rfl,HP,HB⟩:=hrel
    by_cases hlt:k < n
    · obtain ⟨x, hxk⟩ : ∃ x, l[k]? = some x := ⟨_, List.getElem?_eq_getElem (by rw [HN.out]; exact hlt)⟩
      have HXK:Hid (l[k]? = some x):=hxk
      obtain ⟨b2,off,rfl,-,hB,hcx⟩:=HX.out k x hxk
      have a:=fun j u hj=>(HB.out.cell (p:=⟨b2,off + (k * EE.sz + j),none⟩) hB).trans (hcx j u hj)
      have c0:wr.cell? ⟨b2,off + k * 4,none⟩ = some (.string x.1):=a 0 _ rfl
      have c1:wr.cell? ⟨b2,off + k * 4 + 1,none⟩ = some (.int .i64 x.2.1):=a 1 _ rfl
      have c2:wr.cell? ⟨b2,off + k * 4 + 2,none⟩ = some (.int .i64 x.2.2.1):=a 2 _ rfl
      have c3:wr.cell? ⟨b2,off + k * 4 + 3,none⟩ = some (.int .i64 x.2.2.2):=a 3 _ rfl
      have HBX:Hid (b2 < w.heap.size):=hB
      have hsz:=HB.out.size
      have HSZ:Hid (x.1.size<=maxLen):=HS.out x (List.mem_of_getElem? hxk)
      have HV1:Hid (AtW EE (wr.alloc (BE x)) (.slice (some ⟨b2,off,none⟩) n cap) l):=(HV.out.up HB.out).up ((Below.refl _ _).alloc (Nat.le_refl _) _)
      have HB1:Hid (Below w.heap.size w (wr.alloc (BE x))):=HB.out.alloc hsz _
      obtain ⟨⟨x0,x1,x2,x3⟩,-⟩:=four_of (heap_alloc_new wr (BE x))
      have hlt':(k:Int) < (n:Int):=by omega
      clear a hcx hxk n0 n1 hB
      obtain ⟨xs,xc,xo,xg⟩:=x
      simp only at c0 c1 c2 c3 HSZ x0 x1 x2 x3 HV1 HB1
      go_wp2_with fail
      refine (rname_any xs _ HSZ.out).mono ?_
      rintro e w1 ⟨rfl,rfl⟩
      clear c0 c1 c2 c3
      by_cases g1:Nm.ok xs
      case neg =>
        have H:Hid (Fo.err l next = 4):=Fo.not_good HXK.out fun h=>g1 h.1
        rw [Nm.err_no g1]
        clear g1
        go_wp2
        go_ret
        rw [H.out]
        exact ⟨rfl,HB1.out⟩
      rw [Nm.err_ok g1]
      have G1:Hid (Nm.ok xs):=g1
      clear g1
      go_wp2_with fail
      refine (rplace_any _ l xs _ HV1.out).mono ?_
      rintro e w2 ⟨rfl,hb2⟩
      have HB2:Hid (Below w.heap.size w w2):=HB1.out.trans (hb2.mono HB1.out.size)
      have y1:=cell_step x1 hb2
      have y2:=cell_step x2 hb2
      have y3:=cell_step x3 hb2
      have hs2:=HB2.out.size
      clear hb2 x0 x1 x2 x3
      by_cases g2:Fo.at' (Fo.called xs) l = k
      case neg =>
        obtain ⟨p,hp⟩:∃ p,Fo.at' (Fo.called xs) l = p:=⟨_,rfl⟩
        have hne:¬ p = (k:Int):=by rw [← hp];exact g2
        have H:Hid (Fo.err l next = 4):=Fo.err_no fun h=>g2 (Fo.first_of_apart h.2.2 HXK.out)
        rw [hp]
        clear g2 hp
        go_wp2
        go_ret
        rw [H.out]
        exact ⟨rfl,HB2.out⟩
      rw [g2]
      have G2:Hid (Fo.at' (Fo.called xs) l = k):=g2
      clear g2
      go_wp2_with fail
      refine (rto_any xo xg _).mono ?_
      rintro e w3 ⟨rfl,rfl⟩
      have z1:=(cell_older (cell_lt y1) (BHf xo xg) 1).trans y1
      have HB3:Hid (Below w.heap.size w (w2.alloc (BHf xo xg))):=HB2.out.alloc hs2 _
      by_cases g3:Ho xo xg
      case neg =>
        have H:Hid (Fo.err l next = 4):=Fo.not_good HXK.out fun h=>g3 h.2.2
        rw [decide_eq_false g3]
        clear g3
        go_wp2
        go_ret
        rw [H.out]
        exact ⟨rfl,HB3.out⟩
      rw [decide_eq_true g3]
      have G3:Hid (Ho xo xg):=g3
      clear g3
      by_cases g4:xc < 1
      case pos =>
        have H:Hid (Fo.err l next = 4):=Fo.not_good HXK.out fun h=>by
          have h1:=(Fo.lastC_bd HP.out.1 (by rw [HN.out];exact hk) H1.out.1).1
          have h2:=h.2.1.1
          simp only at h2
          omega
        go_wp2
        go_ret
        rw [H.out]
        exact ⟨rfl,HB3.out⟩
      by_cases g5:next < xc
      case pos =>
        have H:Hid (Fo.err l next = 4):=Fo.not_good HXK.out fun h=>by
          have h2:=h.2.1.2
          simp only at h2
          omega
        go_wp2
        go_ret
        rw [H.out]
        exact ⟨rfl,HB3.out⟩
      by_cases g6:k = 0
      · have HG : Hid (Fo.Pre next l (k + 1) ∧ Fo.firsts l (k + 1)) := ⟨Fo.pre_succ HP.out.1 fun y hy => by
          rw [HXK.out] at hy
          cases hy
          subst g6
          exact ⟨G1.out,⟨by simp only [Fo.lastC];omega,by simp only;omega⟩,G3.out⟩,Fo.firsts_succ HP.out.2 HXK.out G2.out⟩
        subst g6
        go_wp2_with fail
        go_quiet (fail)
        go_wp2
        go_roundw
        case rel=>exact ⟨0 + 1,by omega,by go_num,HG,below_drewN HB3.out _⟩
        case measure=>simp [intOf];omega
      · obtain ⟨j, rfl⟩ : ∃ j, k = j + 1 := ⟨k - 1, by omega⟩
        obtain ⟨y,hyj⟩:∃ y,l[j]? = some y:=⟨_,List.getElem?_eq_getElem (by rw [HN.out];omega)⟩
        have HL:Hid (Fo.lastC l (j + 1) = y.2.1):=Fo.lastC_succ hyj
        obtain ⟨b3,off3,hbo,-,hB3,hcy⟩:=HX.out j y hyj
        simp only [Option.some.injEq,Addr.mk.injEq,and_true] at hbo
        obtain ⟨rfl,rfl⟩:=hbo
        have v1:=(cell_older (Nat.lt_of_lt_of_le HBX.out hs2) (BHf xo xg) (off + j * 4 + 1)).trans ((HB2.out.cell (p:=⟨b2,off + j * 4 + 1,none⟩) HBX.out).trans (hcy 1 _ rfl))
        clear hyj hcy g6
        have hj0:(0:Int) < ((j + 1:Nat):Int):=by omega
        have hjs:((j + 1:Nat):Int) - 1 = (j:Int):=by omega
        obtain ⟨yc,hyc⟩:∃ yc,y.2.1 = yc:=⟨_,rfl⟩
        rw [hyc] at HL v1
        clear hyc
        by_cases g7:xc<=yc
        · have H : Hid (Fo.err l next = 4) := Fo.not_good HXK.out fun h => by
            have h2:=h.2.1.1
            simp only at h2
            rw [HL.out] at h2
            omega
          go_wp2_with fail
          go_quiet (fail)
          go_wp2
          go_ret
          rw [H.out]
          exact ⟨rfl,below_drewN HB3.out _⟩
        · have HG : Hid (Fo.Pre next l (j + 1 + 1) ∧ Fo.firsts l (j + 1 + 1)) := ⟨Fo.pre_succ HP.out.1 fun y hy => by
            rw [HXK.out] at hy
            cases hy
            exact ⟨G1.out,⟨by rw [HL.out];simp only;omega,by simp only;omega⟩,G3.out⟩,Fo.firsts_succ HP.out.2 HXK.out G2.out⟩
          go_wp2_with fail
          go_quiet (fail)
          go_wp2
          go_roundw
          case rel=>exact ⟨j + 1 + 1,by omega,by go_num,HG,below_drewN HB3.out _⟩
          case measure=>simp [intOf];omega
    · obtain rfl : k = n := by omega
      have HA:Hid (Fo.err l next = 0):=Fo.err_ok ⟨H1.out,by rw [HN.out];exact HP.out.1,Fo.apart_of_firsts (by rw [HN.out];exact HP.out.2)⟩
      go_wp2
      go_ret
      rw [HA.out]
      exact ⟨rfl,HB.out⟩
end Go.Proofs.YtggoccfddnpelaaGreat
namespace Go.Proofs.YtggoccfddnpelaaGreat
open Go.ChangeShapes Go.WideShapes Go.ChangeAt Go.RowKit Go.Deep It
set_option maxRecDepth 100000
theorem Enc.flat_cell {α:Type} (E:Enc α) {l:List α} {k j:Nat} {x x':α} {u:Value} (hk:l[k]? = some x) (hj:j < E.sz) (hc:E.cells x' = (E.cells x).set j u):(E.flat l).set (k * E.sz + j) u = E.flat (l.set k x'):=by
  have hlt:=(List.getElem?_eq_some_iff.1 hk).1
  have h1:=E.flat_set l k x hlt
  have h2:=E.flat_set l k x' hlt
  have hx:l.set k x = l:=by
    have:l[k] = x:=(List.getElem?_eq_some_iff.1 hk).2
    rw [← this]
    exact List.set_getElem_self hlt
  rw [hx] at h1
  have hlen:((E.flat l).take (k * E.sz)).length = k * E.sz:=by
    rw [List.length_take,E.flat_length]
    exact Nat.min_eq_left (Nat.mul_le_mul_right _ (by omega))
  have hcl:(E.cells x).length = E.sz:=E.len x
  rw [← h2,hc]
  generalize (E.flat l).take (k * E.sz) = A at *
  generalize (E.flat l).drop (k * E.sz + E.sz) = D at *
  rw [← h1,List.append_assoc,List.append_assoc,List.set_append_right _ _ (by omega),hlen,Nat.add_sub_cancel_left,List.set_append_left _ _ (by omega)]
theorem Row.cell {α:Type} {E:Enc α} {w:World} {B:Nat} {e:TypeId} {g n cap:Nat} {ls:List α} {k j:Nat} {x x':α} {u:Value} (h:Row E w B e (.slice (some ⟨g,0,none⟩) n cap) ls) (hk:ls[k]? = some x) (hj:j < E.sz) (hc:E.cells x' = (E.cells x).set j u) :
    Row E (w.setCell ⟨g,k * E.sz + j,none⟩ u) B e (.slice (some ⟨g,0,none⟩) n cap) (ls.set k x'):=by
  rcases h with ⟨h,_⟩ | ⟨g',cap',cur,hv,hB,hh,h1,h2,h3,h4⟩
  · cases h
  · simp only [Value.slice.injEq, Option.some.injEq, Addr.mk.injEq] at hv
    obtain ⟨⟨rfl,-,-⟩,rfl,rfl⟩:=hv
    refine .inr ⟨g,cap,cur.setIfInBounds (k * E.sz + j) u,by rw [List.length_set],hB,?_,by rw [List.length_set];exact h1,h2,by rw [Array.size_setIfInBounds];exact h3,?_⟩
    · simp [World.setCell,Array.getElem?_modify,hh]
    · rw [List.length_set, Array.toList_setIfInBounds, List.take_set, h4]
      exact E.flat_cell hk hj hc
namespace Nf
/-- How a row stands ahead of place j: what stays of those ahead lies in front, those from j on are as they were. -/
structure Del (p:Int × Int->Bool) (U R:List (Int × Int)) (i j:Nat):Prop where
  len:R.length = U.length
  front:R.take i = (U.take j).filter (fun x=>!p x)
  back:∀ t,j<=t->R[t]? = U[t]?
  lt:i < j
theorem Del.ilen {p:Int × Int->Bool} {U R:List (Int × Int)} {i j:Nat} (h:Del p U R i j) (hj:j<=U.length):((U.take j).filter (fun x=>!p x)).length = i:=by
  rw [← h.front,List.length_take,h.len]
  have:=h.lt
  omega
theorem Del.first {p:Int × Int->Bool} {U:List (Int × Int)} {k:Nat} {x:Int × Int} (hx:U[k]? = some x) (hp:p x = true) (hb:∀ j y,j < k->U[j]? = some y->p y = false):Del p U U k (k + 1):=by
  refine ⟨rfl,?_,fun _ _=>rfl,Nat.lt_succ_self _⟩
  rw [List.take_add_one,hx,List.filter_append]
  have h1:(U.take k).filter (fun x=>!p x) = U.take k:=List.filter_eq_self.2 fun y hy=>by
    obtain ⟨j,hj⟩:=List.mem_iff_getElem?.1 hy
    rw [List.getElem?_take] at hj
    split at hj
    · rename_i hlt
      rw [hb j y hlt hj]
      rfl
    · cases hj
  rw [h1]
  simp [hp]
theorem Del.gone {p:Int × Int->Bool} {U R:List (Int × Int)} {i j:Nat} {x:Int × Int} (h:Del p U R i j) (hx:U[j]? = some x) (hp:p x = true):Del p U R i (j + 1):=by
  refine ⟨h.len,?_,fun t ht=>h.back t (by omega),by have:=h.lt;omega⟩
  rw [List.take_add_one,hx,List.filter_append,← h.front]
  simp [hp]
theorem Del.kept {p:Int × Int->Bool} {U R:List (Int × Int)} {i j:Nat} {x:Int × Int} (h:Del p U R i j) (hx:U[j]? = some x) (hp:p x = false):Del p U (R.set i x) (i + 1) (j + 1):=by
  have hj:=(List.getElem?_eq_some_iff.1 hx).1
  have hlt:=h.lt
  have hl:=h.len
  refine ⟨by rw [List.length_set];exact hl,?_,fun t ht=>?_,by omega⟩
  · have hi : i < R.length := by omega
    have e1:(R.set i x).take (i + 1) = R.take i ++ [x]:=by
      rw [List.take_add_one,List.getElem?_set_self hi,List.take_set,List.set_eq_of_length_le (by rw [List.length_take];omega)]
      rfl
    have e2:(U.take (j + 1)).filter (fun x=>!p x) = (U.take j).filter (fun x=>!p x) ++ [x]:=by
      rw [List.take_add_one,hx,List.filter_append]
      simp [hp]
    rw [e1,e2,h.front]
  · rw [List.getElem?_set_ne (by omega)]
    exact h.back t (by omega)
end Nf
theorem below_row {B:Nat} {w w':World} (h:Below B w w') {g:Nat} (hg:B<=g) (cs:Array Value):Below B w (w'.setRow g cs):=by
  refine ⟨h.os,h.tape,h.output,by simpa [World.setRow] using h.size,fun k hk=>?_⟩
  rw [← h.block k hk]
  have hne:g≠k:=by omega
  simp [World.setRow,Array.getElem?_modify,hne]
theorem clear_two (w:World) (g o n c:Nat) (ty:TypeId) (cur:Array Value) (hn:0 < n) (hg:w.heap[g]? = some (.cells cur 55 (0,0))) (ho:o + n * 2<=cur.size) :
    (Builtin.clear_ #[142] ty #[.slice (some ⟨g,o,none⟩) n c]).run Tryz.prog w = .ok (.tuple #[]) (w.setRow g (cur.toList.take o ++ List.replicate (n * 2) (Value.int .i64 0) ++ cur.toList.drop (o + n * 2)).toArray):=by
  have hz:∀ w,(zeroValue 55).run Tryz.prog w = .ok (.agg #[.int .i64 0,.int .i64 0]) w:=fun w=>Tryz.zeroValue55 w
  have hzc:(Builtin.zeroCells (Value.agg #[.int .i64 0,.int .i64 0]).cells n).toList = List.replicate (n * 2) (Value.int .i64 0):=by
    simp [Builtin.zeroCells,Value.cells]
    apply List.ext_getElem
    · simp
    · intro i h1 h2
      have:i % 2 = 0∨i % 2 = 1:=by omega
      rcases this with h | h <;> simp [h]
  have hst:=run_storeCells_at (P:=Tryz.prog) g o 55 (List.replicate (n * 2) (Value.int .i64 0)) 0 cur w hg (by simpa using ho) (by intro v hv;rw [List.eq_of_mem_replicate hv];rfl)
  simp only [Nat.add_zero,List.length_replicate] at hst
  obtain ⟨m,rfl⟩:∃ m,n = m + 1:=⟨n - 1,by omega⟩
  simp [Builtin.clear_,run_underlying Tryz.underlying142,hz,hzc,hst]
set_option maxHeartbeats 4000000 in
theorem del_any (v : Value) (U : List (Int × Int)) (p : Int × Int → Bool) (b B : Nat) (w : World) (hv : Row EH w B 55 v U) (hB : B ≤ w.heap.size) (hlen : U.length ≤ 1000)
    (hp:∀ x∈U,∀ V,Below B w V->Calls Tryz.prog 122 #[.agg #[.int .i64 x.1,.int .i64 x.2],.pointer (some ⟨b,0,none⟩)] V fun e w'=>e = .returned (.bool (p x))/\Below V.heap.size V w') :
    Calls Tryz.prog 123 #[v,VF 122 b] w fun e w'=>∃ u,e = .returned u/\AtW EH w' u (U.filter fun x=>!p x)/\Below B w w':=by
  have HV:Hid (Row EH w B 55 v U):=hv
  have HP:Hid (∀ x∈U,∀ V,Below B w V->Calls Tryz.prog 122 #[.agg #[.int .i64 x.1,.int .i64 x.2],.pointer (some ⟨b,0,none⟩)] V fun e w'=>e = .returned (.bool (p x))/\Below V.heap.size V w'):=hp
  have HI:Hid (∀ V,w = V->Calls Tryz.prog 127 #[v,VF 122 b] V fun e w'=>e = .returned (.int .i64 (atI p U))/\Below w.heap.size w w'):=fun V h=>by
    subst h
    exact idxFi v U p b w hv.at.wide fun x hx V hb=>hp x hx V (hb.mono hB)
  obtain ⟨ao,cap,hsl⟩:=hv.slice
  obtain ⟨n,hn⟩:∃ n,U.length = n:=⟨_,rfl⟩
  have HN:Hid (U.length = n):=hn
  rw [hn] at hsl hlen
  subst hsl
  obtain ⟨r,hr⟩:∃ r,atI p U = r:=⟨_,rfl⟩
  rw [hr] at HI
  have HR:Hid (atI p U = r):=hr
  clear hv hp hn hr
  go_enter Tryz.func123,Tryz.ntmps123
  go_wp2_with fail
  refine (HI.out _ rfl).mono ?_
  rintro e w1 ⟨rfl,hb1⟩
  have HB1:Hid (Below w.heap.size w w1):=hb1
  have HV1:Hid (Row EH w1 B 55 (.slice ao n cap) U):=HV.out.up hb1
  clear hb1 HI
  by_cases hr1:r = -1
  · subst hr1
    have hno:∀ x∈U,p x = false:=by
      have h:=HR.out
      unfold atI at h
      cases hf:U.findIdx? p with
      | none=>exact List.findIdx?_eq_none_iff.1 hf
      | some k =>
        rw [hf] at h
        have h2:(k:Int) = -1:=h
        omega
    have HF:Hid (AtW EH w1 (.slice ao n cap) (U.filter fun x=>!p x)):=by
      show AtW EH w1 (.slice ao n cap) (U.filter fun x=>!p x)
      rw [List.filter_eq_self.2 fun x hx=>by rw [hno x hx];rfl]
      exact HV1.out.at.wide
    clear hno
    go_wp2
    go_ret
    exact ⟨_,rfl,HF.out,HB1.out.mono hB⟩
  · obtain ⟨k, x, hrk, hkx, hpx, hbx⟩ : ∃ (k : Nat) (x : Int × Int), r = k ∧ U[k]? = some x ∧ p x = true ∧ ∀ j y, j < k → U[j]? = some y → p y = false := by
      have h:=HR.out
      unfold atI at h
      cases hf:U.findIdx? p with
      | none =>
        rw [hf] at h
        exact absurd h.symm hr1
      | some k =>
        rw [hf] at h
        rw [List.findIdx?_eq_some_iff_getElem] at hf
        obtain ⟨hk,hpk,hbk⟩:=hf
        refine ⟨k,U[k],h.symm,List.getElem?_eq_getElem hk,hpk,fun j y hj hy=>?_⟩
        have h1:=hbk j hj
        rw [List.getElem?_eq_getElem (by omega)] at hy
        cases hy
        simpa using h1
    subst hrk
    have HD0:Hid (Nf.Del p U U k (k + 1)):=Nf.Del.first hkx hpx hbx
    have hkn:k < n:=by rw [← HN.out];exact (List.getElem?_eq_some_iff.1 hkx).1
    have tr:((k:Int) == -1) = false:=by
      apply beq_eq_false_iff_ne.2
      omega
    obtain ⟨g,hg⟩:∃ g,ao = some ⟨g,0,none⟩:=by
      rcases HV1.out with ⟨h,_⟩ | ⟨g,cap',cur,h,_⟩
      · simp only [Value.slice.injEq] at h
        omega
      · simp only [Value.slice.injEq] at h
        exact ⟨g,h.1⟩
    subst hg
    have hgB:B<=g:=(HV1.out.lt g rfl).1
    clear hr1 hkx hpx hbx HR
    go_wp2
    go_loopw [5,6] (fun iv jv wr=>∃ (i j:Nat) (R:List (Int × Int)),i < n/\j<=n/\iv = .int .i64 i/\jv = .int .i64 j/\Hid (Nf.Del p U R i j)/\Hid (Row EH wr B 55 (.slice (some ⟨g,0,none⟩) n cap) R)/\Hid (Below B w wr)) (fun _ jv _=>n - (intOf jv).toNat)
    case atStart=>exact ⟨k,k + 1,U,hkn,by omega,rfl,by go_num,HD0,HV1,HB1.out.mono hB⟩
    case round =>
      obtain ⟨i,j,R,hi,hj,rfl,rfl,HD,HRW,HBR⟩:=hrel
      have hRl:R.length = n:=HD.out.len.trans HN.out
      have hgl:g < wr.heap.size:=(HRW.out.lt g rfl).2
      have hBs:B<=wr.heap.size:=by omega
      by_cases hlt:j < n
      · obtain ⟨y, hy⟩ : ∃ y, U[j]? = some y := ⟨_, List.getElem?_eq_getElem (by rw [HN.out]; exact hlt)⟩
        have hyR:R[j]? = some y:=(HD.out.back j (Nat.le_refl _)).trans hy
        have hlt':(j:Int) < (n:Int):=by omega
        have hi':(i:Int) < (n:Int):=by omega
        obtain ⟨ao9,cap9,hvs,-,hos⟩:=HRW.out.at.open
        obtain ⟨bs,ofs,hbs,-,hBs2,hcs⟩:=hos j y hyR
        simp only [Value.slice.injEq] at hvs
        have hgo:=hvs.1.trans hbs
        simp only [Option.some.injEq,Addr.mk.injEq] at hgo
        obtain ⟨rfl,rfl,-⟩:=hgo
        obtain ⟨y0,y1⟩:=y
        have c0:wr.cell? ⟨g,j * 2,none⟩ = some (.int .i64 y0):=by have:=hcs 0 _ rfl;simpa [show EH.sz = 2 from rfl] using this
        have c1:wr.cell? ⟨g,j * 2 + 1,none⟩ = some (.int .i64 y1):=by have:=hcs 1 _ rfl;simpa [show EH.sz = 2 from rfl] using this
        clear hvs hbs hos hBs2 hcs
        have HC:=HP.out (y0,y1) (List.mem_of_getElem? hy)
        obtain ⟨q,hq⟩:∃ q,p (y0,y1) = q:=⟨_,rfl⟩
        obtain ⟨W2,hW2⟩:∃ W,W = wr.alloc (BH y0 y1):=⟨_,rfl⟩
        have bw2:Below wr.heap.size wr W2:=by rw [hW2];exact (Below.refl _ _).alloc (Nat.le_refl _) _
        have HB2:Hid (Below B w W2):=HBR.out.trans (bw2.mono hBs)
        have HR2:Hid (Row EH W2 B 55 (.slice (some ⟨g,0,none⟩) n cap) R):=HRW.out.up bw2
        have HX2:Hid (W2.heap[wr.heap.size]? = some (BH y0 y1)):=by show W2.heap[wr.heap.size]? = _;rw [hW2];exact heap_alloc_new _ _
        clear bw2
        go_wp2_with fail
        rw [← hW2]
        clear hW2
        refine (HC W2 HB2.out).mono ?_
        rintro e w3 ⟨rfl,hb3⟩
        rw [hq]
        have HB3:Hid (Below B w w3):=HB2.out.trans (hb3.mono (Nat.le_trans hB HB2.out.size))
        have HR3:Hid (Row EH w3 B 55 (.slice (some ⟨g,0,none⟩) n cap) R):=HR2.out.up hb3
        have HX3:Hid (w3.heap[wr.heap.size]? = some (BH y0 y1)):=(hb3.block _ (Array.getElem?_eq_some_iff.1 HX2.out).1).trans HX2.out
        clear hb3 HC
        cases q with
        | true =>
          have HD2:Hid (Nf.Del p U R i (j + 1)):=HD.out.gone hy hq
          clear hq hy hyR
          go_wp2
          go_roundw
          case rel=>exact ⟨i,j + 1,R,hi,by omega,rfl,by go_num,HD2,HR3,HB3⟩
          case measure=>simp [intOf];omega
        | false =>
          have HD2:Hid (Nf.Del p U (R.set i (y0,y1)) (i + 1) (j + 1)):=HD.out.kept hy hq
          have hij:i < j:=HD.out.lt
          obtain ⟨o,ho⟩:∃ o,R[i]? = some o:=⟨_,List.getElem?_eq_getElem (by omega)⟩
          obtain ⟨⟨f0,f1⟩,-⟩:=two_of HX3.out
          have HR4:Hid (Row EH ((w3.setCell ⟨g,i * 2,none⟩ (.int .i64 y0)).setCell ⟨g,i * 2 + 1,none⟩ (.int .i64 y1)) B 55 (.slice (some ⟨g,0,none⟩) n cap) (R.set i (y0,y1))):=by
            have h1:=Row.cell (k:=i) (j:=0) (x:=o) (x':=(y0,o.2)) (u:=.int .i64 y0) HR3.out ho (by decide) rfl
            have h2:=Row.cell (k:=i) (j:=1) (x:=(y0,o.2)) (x':=(y0,y1)) (u:=.int .i64 y1) h1 (by rw [List.getElem?_set_self (by omega)]) (by decide) rfl
            rw [List.set_set] at h2
            exact h2
          obtain ⟨cur,hcur,hcs⟩:∃ cur,w3.heap[g]? = some (.cells cur 55 (0,0))/\n * 2<=cur.size:=by
            rcases HR3.out with ⟨h,_⟩ | ⟨g',cap',cur,h,_,h2,h3,_,h5,_⟩
            · cases h
            · simp only [Value.slice.injEq, Option.some.injEq, Addr.mk.injEq] at h
              obtain ⟨⟨rfl,-,-⟩,-,rfl⟩:=h
              refine ⟨cur,h2,Nat.le_trans (Nat.mul_le_mul_right 2 ?_) h5⟩
              rw [← hRl]
              exact h3
          have d0:w3.cell? ⟨g,i * 2,none⟩ = some (cur[i * 2]'(by omega)):=by simp [World.cell?,hcur]
          have d1:w3.cell? ⟨g,i * 2 + 1,none⟩ = some (cur[i * 2 + 1]'(by omega)):=by simp [World.cell?,hcur]
          have e0:w3.frozen? ⟨g,i * 2,none⟩ = false:=by simp [World.frozen?,hcur]
          have e1:w3.frozen? ⟨g,i * 2 + 1,none⟩ = false:=by simp [World.frozen?,hcur]
          have HB4:Hid (Below B w ((w3.setCell ⟨g,i * 2,none⟩ (.int .i64 y0)).setCell ⟨g,i * 2 + 1,none⟩ (.int .i64 y1))):=Below.setCell (Below.setCell HB3.out (show B<=g from hgB) _) (show B<=g from hgB) _
          clear hq hy hyR ho
          go_wp2
          go_roundw
          case rel=>exact ⟨i + 1,j + 1,R.set i (y0,y1),by omega,by omega,by go_num,by go_num,HD2,HR4,HB4⟩
          case measure=>simp [intOf];omega
      · obtain rfl : j = n := by omega
        have hil:=HD.out.ilen (by rw [HN.out];exact Nat.le_refl _)
        have hfr:=HD.out.front
        rw [show U.take j = U from List.take_of_length_le (by rw [HN.out];exact Nat.le_refl _)] at hil hfr
        obtain ⟨cur,hcur,hcs,hcap,hcm,htk⟩:∃ cur,wr.heap[g]? = some (.cells cur 55 (0,0))/\cap * 2<=cur.size/\j<=cap/\cap<=maxLen/\cur.toList.take (j * 2) = EH.flat R:=by
          rcases HRW.out with ⟨h,_⟩ | ⟨g',cap',cur,h,_,h2,h3,h4,h5,h6⟩
          · cases h
          · simp only [Value.slice.injEq, Option.some.injEq, Addr.mk.injEq] at h
            obtain ⟨⟨rfl,-,-⟩,-,rfl⟩:=h
            rw [hRl] at h3 h6
            exact ⟨cur,h2,h5,h3,h4,h6⟩
        have hi':(i:Int)<=(j:Int):=by omega
        have hji:(j:Int)<=(cap:Int):=by omega
        obtain ⟨W5,hW5⟩:∃ W,W = wr.setRow g (cur.toList.take (i * 2) ++ List.replicate ((j - i) * 2) (Value.int .i64 0) ++ cur.toList.drop (i * 2 + (j - i) * 2)).toArray:=⟨_,rfl⟩
        have hcl:∀ ty,(Builtin.clear_ #[142] ty #[.slice (some ⟨g,i * 2,none⟩) (j - i) (cap - i)]).run Tryz.prog wr = .ok (.tuple #[]) W5:=fun ty=>by
          rw [hW5]
          exact clear_two wr g (i * 2) (j - i) (cap - i) ty cur (by omega) hcur (by omega)
        have HB5:Hid (Below B w W5):=by
          show Below B w W5
          rw [hW5]
          exact below_row HBR.out hgB _
        have HF:Hid (AtW EH W5 (.slice (some ⟨g,0,none⟩) i cap) (U.filter fun x=>!p x)):=by
          show AtW EH W5 (.slice (some ⟨g,0,none⟩) i cap) (U.filter fun x=>!p x)
          rw [← hfr]
          have hw5:W5.heap[g]? = some (.cells (cur.toList.take (i * 2) ++ List.replicate ((j - i) * 2) (Value.int .i64 0) ++ cur.toList.drop (i * 2 + (j - i) * 2)).toArray 55 (0,0)):=by
            rw [hW5]
            exact setRow_heap wr g _ _ _ _ hcur
          have hrow:Row EH W5 B 55 (.slice (some ⟨g,0,none⟩) (R.take i).length cap) (R.take i):=by
            refine .inr ⟨g,cap,_,rfl,hgB,hw5,by rw [List.length_take];omega,hcm,?_,?_⟩
            · simp
              have:EH.sz = 2:=rfl
              rw [this]
              omega
            · have e1 : (R.take i).length = i := by rw [List.length_take]; omega
              have e2:EH.sz = 2:=rfl
              rw [e1,e2,List.toList_toArray,List.append_assoc,List.take_append_of_le_length (by rw [List.length_take,Array.length_toList];omega),List.take_take,show min (i * 2) (i * 2) = i * 2 by omega]
              have e3:cur.toList.take (i * 2) = (cur.toList.take (j * 2)).take (i * 2):=by rw [List.take_take,show min (i * 2) (j * 2) = i * 2 by omega]
              rw [e3,htk]
              have e4:EH.flat R = EH.flat (R.take i) ++ EH.flat (R.drop i):=by rw [← EH.flat_append,List.take_append_drop]
              rw [e4,List.take_append_of_le_length (by rw [EH.flat_length,e1,e2];exact Nat.le_refl _)]
              refine List.take_of_length_le ?_
              rw [EH.flat_length,e1,e2]
              exact Nat.le_refl _
          have:=hrow.at.wide
          rwa [show (R.take i).length = i by rw [List.length_take];omega] at this
        clear hfr hil htk hW5
        go_wp2
        go_ret
        exact ⟨_,rfl,HF.out,HB5.out⟩
set_option maxRecDepth 100000 in
theorem usedR_any {S : Nat → Prop} (v : Value) (L : List Rw) (w : World) (hv : TabAt S w v L) (hL : L.length ≤ 1466015503701) :
    Calls Tryz.prog 120 #[v] w fun e w'=>∃ u,e = .returned u/\Row EH w' w.heap.size 55 u (used (pl L))/\Below w.heap.size w w':=by
  obtain ⟨i0,hi,hz0,hz1,hz2⟩:=info_parts infoH
  obtain ⟨ao,cap,rfl,hm,hx⟩:=hv.open
  clear hv
  unfold maxLen at hm
  obtain ⟨n,hn⟩:∃ n,L.length = n:=⟨_,rfl⟩
  rw [hn] at hm hL ⊢
  have HN:Hid (L.length = n):=hn
  have HX:Hid (∀ i x,L[i]? = some x->(∃ b off,ao = some ⟨b,off,none⟩/\b < w.heap.size/\eight w b (off + i * 8) x)/\Good S w x):=hx
  clear hn hx
  go_enter Tryz.func120,Tryz.ntmps120
  go_wp2
  go_loopw [3,8] (fun u i wr=>∃ k:Nat,k<=n/\i = .int .i64 k/\Row EH wr w.heap.size 55 u (used ((pl L).take k))/\Hid (Below w.heap.size w wr)) (fun _ i _=>n - (intOf i).toNat)
  case atStart=>exact ⟨0,Nat.zero_le _,rfl,Row.nil _ _ _ _,Below.refl _ _⟩
  case round =>
    obtain ⟨k,hk,rfl,hrow,HB⟩:=hrel
    by_cases hlt:k < n
    · have h0 : L[k]? = some (L[k]'(by have := HN.out; omega)) := List.getElem?_eq_getElem _
      obtain ⟨y,hyk⟩:∃ y,L[k]? = some y:=⟨_,h0⟩
      clear h0
      obtain ⟨⟨b,off,rfl,hB',hc'⟩,_⟩:=HX.out k y hyk
      obtain ⟨d0,d1,d2,d3,d4,d5,d6,d7⟩:=hc'.below HB.out hB'
      have HU:=It.used_take_succ (It.pl_get hyk)
      have hul:=It.used_length ((pl L).take k)
      rw [List.length_take] at hul
      obtain ⟨pu,cu,hu⟩:=hrow.slice
      generalize used ((pl L).take k) = O at hrow hu HU hul
      obtain ⟨q,hq⟩:∃ q,O.length = q:=⟨_,rfl⟩
      have HQ:Hid (O.length = q):=hq
      rw [hq] at hu hul
      have hqk:q<=k:=by omega
      subst hu
      have hlt':(k:Int) < (n:Int):=by omega
      clear hyk hc' hq hul
      by_cases hkd:y.i.kind = 0
      · rw [if_pos hkd, List.append_nil] at HU
        have hkd':(y.i.kind == 0) = true:=by simp [hkd]
        have HU2:Hid (used ((pl L).take (k + 1)) = O):=HU
        have HR:Hid (Row EH wr w.heap.size 55 (.slice pu q cu) O):=hrow
        clear hkd HU hrow
        go_wp2
        go_roundw
        case rel=>exact ⟨k + 1,by omega,by go_num,by rw [HU2.out];exact HR.out.still (World.grownBy_alloc _ _ _),HB.out.alloc HB.out.size _⟩
        case measure=>simp [intOf];omega
      · rw [if_neg hkd] at HU
        have hkd':(y.i.kind == 0) = false:=by simp [hkd]
        have HU2:Hid (used ((pl L).take (k + 1)) = O ++ [((k:Int),y.i.gen)]):=HU
        have HR:Hid (Row EH wr w.heap.size 55 (.slice pu q cu) O):=hrow
        have hbs:=HB.out.size
        obtain ⟨OB,hOB⟩:∃ OB,OB = (Obj.cells #[.int .i64 y.i.gen,.int .i64 y.i.kind,.int .i64 y.i.links,.int .i64 y.i.size,.int .i64 y.i.stamp,.slice y.rp y.rn y.rc,.slice y.ep y.en y.ec,.int .i64 y.i.next] 52):=⟨_,rfl⟩
        have HI:Hid (AtW EH ((wr.alloc OB).alloc (BH k y.i.gen)) (.slice (some ⟨wr.heap.size + 1,0,none⟩) 1 1) [((k:Int),y.i.gen)]):=by
          refine one_hand _ _ _ _ ?_
          have:=heap_alloc_new (wr.alloc OB) (BH k y.i.gen)
          rw [show (wr.alloc OB).heap.size = wr.heap.size + 1 by simp] at this
          exact this
        rw [hOB] at HI
        clear hkd HU hrow hOB
        go_wp2_with (at_builtin;refine wpList_row _ rfl _ _ 142 rfl EH (fun _=>True) w.heap.size 55 i0 (.agg #[.int .i64 0,.int .i64 0]) 16 Tryz.underlying142 hi hz0 hz1 hz2 rfl (.slice pu q cu) O rfl ((HR.out.still (World.grownBy_alloc _ _ _)).still (World.grownBy_alloc _ _ _)) _ [((k:Int),y.i.gen)] rfl HI.out (by have:=HQ.out;unfold maxLen;simp;omega) (by have:=HQ.out;simp;omega) (by simp;omega) ?_;intro v7 w7 hrow7 hg7 hmv7)
        have HB7:Hid (Below w.heap.size w w7):=((HB.out.alloc hbs _).alloc (by simp;omega) _).grown hg7 (by simp;omega) (fun i hi=>(HR.out.lt i hi).1)
        have HR7:Hid (Row EH w7 w.heap.size 55 v7 (O ++ [((k:Int),y.i.gen)])):=hrow7
        clear hrow7 hg7 hmv7
        go_wp2
        go_roundw
        case rel=>exact ⟨k + 1,by omega,by go_num,by rw [HU2.out];exact HR7.out,HB7⟩
        case measure=>simp [intOf];omega
    · obtain rfl : k = n := by omega
      have HE:Hid (Row EH wr w.heap.size 55 u3 (used (pl L))/\Below w.heap.size w wr):=by
        have h:=hrow
        rw [List.take_of_length_le (by have:=HN.out;simp only [pl,List.length_map];omega)] at h
        exact ⟨h,HB.out⟩
      obtain ⟨pu,cu,hu⟩:=hrow.slice
      generalize (used ((pl L).take k)).length = q at hu
      subst hu
      clear hrow
      go_wp2
      go_ret
      exact ⟨_,rfl,HE.out⟩
namespace Nf
def fileAt (L:List Ino) (h:Int × Int):Bool:=match L[h.1.toNat]? with | some x=>x.kind == 1 | none=>false
def files (L:List Ino):List (Int × Int):=(used L).filter (fileAt L)
end Nf
abbrev BSl (v:Value) (t:TypeId):Obj:=.cells #[v] t
theorem sl_of {w:World} {A:Nat} {v:Value} {t:TypeId} (h:w.heap[A]? = some (BSl v t)):w.cell? ⟨A,0,none⟩ = some v:=by simp [World.cell?,h]
set_option maxHeartbeats 2000000 in
theorem files1_any {S:Nat->Prop} (v:Value) (L:List Rw) (no gen:Int) (A:Nat) (w:World) (hv:TabAt S w v L) (hA:w.heap[A]? = some (BSl v 23)) (hn:names (pl L) no gen = true) :
    Calls Tryz.prog 122 #[.agg #[.int .i64 no,.int .i64 gen],.pointer (some ⟨A,0,none⟩)] w fun e w'=>e = .returned (.bool (!Nf.fileAt (pl L) (no,gen)))/\Below w.heap.size w w':=by
  obtain ⟨k,x,hx,hno,-,-⟩:=names_iff.1 hn
  obtain ⟨y,hy,hyi⟩:=Sp.pl_some hx
  have hf:Nf.fileAt (pl L) (no,gen) = (y.i.kind == 1):=by
    unfold Nf.fileAt
    rw [hno,show ((k:Int),gen).1.toNat = k by show ((k:Int)).toNat = k;omega,hx,hyi]
  rw [hf]
  obtain ⟨ao,cap,rfl,hm,hxx⟩:=hv.open
  obtain ⟨⟨b,off,rfl,hB,c0,c1,c2,c3,c4,c5,c6,c7⟩,-⟩:=hxx k y hy
  have hkl:(k:Int) < (L.length:Int):=by have:=(List.getElem?_eq_some_iff.1 hy).1;omega
  have hA0:=sl_of hA
  have hAl:=(Array.getElem?_eq_some_iff.1 hA).1
  subst hno
  obtain ⟨kd,hkd⟩:∃ kd,y.i.kind = kd:=⟨_,rfl⟩
  rw [hkd] at c1 ⊢
  obtain ⟨n,hn'⟩:∃ n,L.length = n:=⟨_,rfl⟩
  rw [hn'] at hkl hA0
  have e0:(!(kd == 1)) = (kd != 1):=rfl
  rw [e0]
  clear hv hxx hn hx hyi hf hm hA c0 c2 c3 c4 c5 c6 c7 hkd e0
  go_enter Tryz.func122,Tryz.ntmps122
  go_wp2
  go_ret
  exact ⟨rfl,(Below.refl _ _).alloc (Nat.le_refl _) _⟩
set_option maxHeartbeats 2000000 in
theorem files_any {S:Nat->Prop} (v:Value) (L:List Rw) (w:World) (hv:TabAt S w v L) (hL:L.length<=24) :
    Calls Tryz.prog 92 #[v] w fun e w'=>∃ u,e = .returned u/\AtW EH w' u (Nf.files (pl L))/\Below w.heap.size w w':=by
  have HV:Hid (TabAt S w v L):=hv
  have HL:Hid (L.length<=24):=hL
  obtain ⟨W,hW⟩:∃ W,W = w.alloc (BSl v 23):=⟨_,rfl⟩
  have HB0:Hid (Below w.heap.size w W):=by show Below w.heap.size w W;rw [hW];exact (Below.refl _ w).alloc (Nat.le_refl _) _
  have HA0:Hid (W.heap[w.heap.size]? = some (BSl v 23)):=by show W.heap[w.heap.size]? = _;rw [hW];exact heap_alloc_new _ _
  have hla:=(Array.getElem?_eq_some_iff.1 HA0.out).1
  have hA0:=sl_of HA0.out
  obtain ⟨ao,cap,rfl,-,-⟩:=hv.open
  obtain ⟨n,hn⟩:∃ n,L.length = n:=⟨_,rfl⟩
  rw [hn] at HV HA0 hA0 hW ⊢
  clear hv hL hn
  go_enter Tryz.func92,Tryz.ntmps92
  go_wp2_with fail
  rw [← hW]
  clear hW hA0
  refine (usedR_any _ L _ (HV.out.up HB0.out) (by have:=HL.out;omega)).mono ?_
  rintro e w2 ⟨u2,rfl,hu2,hb2⟩
  have HU2:Hid (Row EH w2 W.heap.size 55 u2 (used (pl L))):=hu2
  have HB2:Hid (Below W.heap.size W w2):=hb2
  obtain ⟨p2,c2,hs2⟩:=hu2.slice
  have hul:(used (pl L)).length<=24:=by
    have h1:=It.used_length (pl L)
    have h2:=HL.out
    rw [List.length_map] at h1
    omega
  have HUL:Hid ((used (pl L)).length<=1000):=by show _<=_;omega
  obtain ⟨m,hm⟩:∃ m,(used (pl L)).length = m:=⟨_,rfl⟩
  rw [hm] at hs2
  subst hs2
  clear hu2 hb2 hm hul
  go_wp2_with fail
  refine (del_any _ (used (pl L)) (fun h=>!Nf.fileAt (pl L) h) w.heap.size W.heap.size _ HU2.out HB2.out.size HUL.out (fun x hx V hb=>?_)).mono ?_
  · have hWV : Below W.heap.size W V := HB2.out.trans hb
    exact files1_any _ L x.1 x.2 w.heap.size V ((HV.out.up HB0.out).up hWV) ((hWV.block _ hla).trans HA0.out) (mem_used.1 hx)
  rintro e w3 ⟨u3,rfl,hu3,hb3⟩
  have HB3:Hid (Below w.heap.size w w3):=HB0.out.trans ((HB2.out.trans hb3).mono HB0.out.size)
  have HU3:Hid (AtW EH w3 u3 (Nf.files (pl L))):=by
    show AtW EH w3 u3 (Nf.files (pl L))
    have e:Nf.files (pl L) = (used (pl L)).filter fun x=>!(!Nf.fileAt (pl L) x):=by
      unfold Nf.files
      refine List.filter_congr fun x _=>?_
      simp
    rw [e]
    exact hu3
  obtain ⟨p3,c3,hs3,-,-⟩:=hu3.open
  obtain ⟨m3,hm3⟩:∃ m,((used (pl L)).filter fun x=>!(!Nf.fileAt (pl L) x)).length = m:=⟨_,rfl⟩
  rw [hm3] at hs3
  subst hs3
  clear hu3 hb3 hm3
  go_wp2
  go_ret
  exact ⟨_,rfl,HU3.out,HB3.out⟩
end Go.Proofs.YtggoccfddnpelaaGreat
namespace Go.Proofs.YtggoccfddnpelaaGreat
open Go.ChangeShapes Go.WideShapes Go.ChangeAt Go.RowKit Go.Deep
set_option maxRecDepth 100000
set_option maxHeartbeats 1000000 in
theorem bbytes_any (v:Value) (l:List Bl.R) (w:World) (hv:FieldsAt w.heap.size w v l) :
    Calls Tryz.prog 99 #[v] w fun e w'=>e = .returned (.int .i64 (Bl.sumw l))/\Below w.heap.size w w':=by
  obtain ⟨ao,cap,rfl,hm,hx⟩:=hv.open
  clear hv
  unfold maxLen at hm
  obtain ⟨n,hn⟩:∃ n,l.length = n:=⟨_,rfl⟩
  rw [hn] at hm hx ⊢
  have HN:Hid (l.length = n):=hn
  have HX:Hid (∀ j,j < n->∃ b off,ao = some ⟨b,off,none⟩/\b < w.heap.size/\w.cell? ⟨b,off + j * 2,none⟩ = some (.int .i64 (l.getD j (0,.empty)).1)/\w.cell? ⟨b,off + j * 2 + 1,none⟩ = some (.string (l.getD j (0,.empty)).2)):=hx
  clear hn hx
  go_enter Tryz.func99,Tryz.ntmps99
  go_wp2
  go_loopw [3,8] (fun t i wr=>∃ (k:Nat) (y:Int),k<=n/\i = .int .i64 k/\t = .int .i64 y/\y = Bl.sumw (l.take k)/\Below w.heap.size w wr) (fun _ i _=>n - (intOf i).toNat)
  case atStart=>exact ⟨0,_,Nat.zero_le _,rfl,rfl,rfl,Below.refl _ _⟩
  case round =>
    obtain ⟨k,y,hk,rfl,rfl,hy,hbl⟩:=hrel
    have HY:Hid (y = Bl.sumw (l.take k)):=hy
    clear hy
    have hsz:=hbl.size
    by_cases hlt:k < n
    · obtain ⟨b, off, rfl, hB, c0, c1⟩ := HX.out k hlt
      have hk':k < l.length:=by rw [HN.out];exact hlt
      rw [← hbl.cell (p:=⟨b,off + k * 2,none⟩) hB] at c0
      rw [← hbl.cell (p:=⟨b,off + k * 2 + 1,none⟩) hB] at c1
      obtain ⟨x,hxk⟩:∃ x,l.getD k (0,.empty) = x:=⟨_,rfl⟩
      rw [hxk] at c0 c1
      have HS:Hid (Bl.sumw (l.take (k + 1)) = wrap64 (Bl.sumw (l.take k) + (x.2.size:Int))):=Bl.sumw_succ hk' hxk
      clear hxk
      obtain ⟨t,s'⟩:=x
      simp only at c0 c1 HS
      have hlt':(k:Int) < (n:Int):=by omega
      go_wp2
      go_roundw
      case rel=>exact ⟨k + 1,_,by omega,by go_num,rfl,by rw [HS.out,← HY.out],hbl.alloc hsz _⟩
      case measure=>simp [intOf];omega
    · obtain rfl : k = n := by omega
      go_wp2
      go_ret
      have h:=HY.out
      rw [← HN.out,List.take_length] at h
      rw [h]
      exact ⟨rfl,hbl⟩
end Go.Proofs.YtggoccfddnpelaaGreat
namespace Go.Proofs.YtggoccfddnpelaaGreat
open Go.ChangeShapes Go.WideShapes Go.ChangeAt Go.RowKit Go.Deep It
set_option maxRecDepth 100000
namespace It
/-- The bytes of all runs, as a sum that goes round. -/
def allBytes (L:List Ino):Int:=L.foldl (fun y x=>wrap64 (y + Bl.sumw x.runs)) 0
theorem bytes_succ {L:List Ino} {k:Nat} {x:Ino} (h:L[k]? = some x):allBytes (L.take (k + 1)) = wrap64 (allBytes (L.take k) + Bl.sumw x.runs):=by
  unfold allBytes
  rw [take_succ h,List.foldl_append]
  rfl
theorem wrap_wrap (a b:Int):wrap64 (a + wrap64 b) = wrap64 (a + b):=by
  unfold wrap64
  omega
theorem sumw_from (l:List Bl.R):∀ y:Int,l.foldl (fun y r=>wrap64 (y + (r.2.size:Int))) (wrap64 y) = wrap64 (y + Bl.sumw l):=by
  have key:∀ (l:List Bl.R) (y z:Int),l.foldl (fun y r=>wrap64 (y + (r.2.size:Int))) (wrap64 (y + z)) = wrap64 (y + l.foldl (fun y r=>wrap64 (y + (r.2.size:Int))) (wrap64 z)):=by
    intro l
    induction l with
    | nil=>intro y z;simp only [List.foldl_nil];rw [wrap_wrap]
    | cons r l ih =>
      intro y z
      simp only [List.foldl_cons]
      have e1:wrap64 (wrap64 (y + z) + (r.2.size:Int)) = wrap64 (y + (z + (r.2.size:Int))):=by unfold wrap64;omega
      have e2:wrap64 (wrap64 z + (r.2.size:Int)) = wrap64 (z + (r.2.size:Int)):=by unfold wrap64;omega
      rw [e1,e2,ih]
  intro y
  have:=key l y 0
  rw [Int.add_zero] at this
  rw [this,show wrap64 (0:Int) = 0 from by unfold wrap64;decide]
  rfl
/-- The sum behind the first j runs of the inode behind the first k. -/
def bytesAt (L:List Ino) (k j:Nat) (x:Ino):Int:=(x.runs.take j).foldl (fun y r=>wrap64 (y + (r.2.size:Int))) (allBytes (L.take k))
theorem bytes_wrapped (L:List Ino):wrap64 (allBytes L) = allBytes L:=by
  rcases List.eq_nil_or_concat L with rfl | ⟨m,s,rfl⟩
  · show wrap64 (0 : Int) = 0
    unfold wrap64
    decide
  · unfold allBytes
    rw [List.concat_eq_append,List.foldl_append]
    simp only [List.foldl_cons,List.foldl_nil]
    unfold wrap64
    omega
theorem bytesAt_end (L:List Ino) (k:Nat) (x:Ino):bytesAt L k x.runs.length x = wrap64 (allBytes (L.take k) + Bl.sumw x.runs):=by
  unfold bytesAt
  rw [List.take_length,← sumw_from,bytes_wrapped]
theorem bytesAt_succ {L:List Ino} {k j:Nat} {x:Ino} {r:Int × ByteArray} (h:x.runs[j]? = some r):bytesAt L k (j + 1) x = wrap64 (bytesAt L k j x + (r.2.size:Int)):=by
  unfold bytesAt
  rw [take_succ h,List.foldl_append]
  rfl
end It
set_option maxHeartbeats 2000000 in
theorem ibytes_any {S : Nat → Prop} (v : Value) (L : List Rw) (w : World) (hv : TabAt S w v L) :
    Calls Tryz.prog 65 #[v] w fun e w'=>e = .returned (.int .i64 (allBytes (pl L)))/\Below w.heap.size w w':=by
  obtain ⟨ao,cap,rfl,hm,hx⟩:=hv.open
  clear hv
  unfold maxLen at hm
  obtain ⟨n,hn⟩:∃ n,L.length = n:=⟨_,rfl⟩
  rw [hn] at hm ⊢
  have HN:Hid (L.length = n):=hn
  have HX:Hid (∀ i x,L[i]? = some x->(∃ b off,ao = some ⟨b,off,none⟩/\b < w.heap.size/\eight w b (off + i * 8) x)/\Good S w x):=hx
  clear hn hx
  go_enter Tryz.func65,Tryz.ntmps65
  go_wp2
  go_loopw [3,8] (fun t i wr=>∃ (k:Nat) (y:Int),k<=n/\i = .int .i64 k/\t = .int .i64 y/\y = allBytes ((pl L).take k)/\Below w.heap.size w wr) (fun _ i _=>n - (intOf i).toNat)
  case atStart=>exact ⟨0,0,Nat.zero_le _,rfl,rfl,rfl,Below.refl _ _⟩
  case round =>
    obtain ⟨k,y,hk,rfl,rfl,hy,hbl⟩:=hrel
    have HY:Hid (y = allBytes ((pl L).take k)):=hy
    have hsz:=hbl.size
    clear hy
    by_cases hlt:k < n
    · obtain ⟨x, hxk⟩ : ∃ y, L[k]? = some y := ⟨_, List.getElem?_eq_getElem (by rw [HN.out]; exact hlt)⟩
      obtain ⟨⟨b,off,rfl,hB,hc⟩,hg⟩:=HX.out k x hxk
      obtain ⟨d0,d1,d2,d3,d4,d5,d6,d7⟩:=hc.below hbl hB
      have HS:Hid (allBytes ((pl L).take (k + 1)) = wrap64 (allBytes ((pl L).take k) + Bl.sumw x.i.runs)):=bytes_succ (It.pl_get hxk)
      have HGX:Hid (Good S wr x):=hg.up hbl
      obtain ⟨X,hX⟩:∃ X,X = x:=⟨_,rfl⟩
      rw [← hX] at HS HGX
      have hrr:(Value.slice x.rp x.rn x.rc) = .slice X.rp X.rn X.rc:=by rw [hX]
      obtain ⟨⟨g,kk,l,s,t,rs,es,nx⟩,rp,rn,rc,ep,en,ec⟩:=x
      simp only at d0 d1 d2 d3 d4 d5 d6 d7 hrr
      have HRF:Hid (FieldsAt (wr.alloc (B8 g kk l s t (.slice rp rn rc) (.slice ep en ec) nx)).heap.size (wr.alloc (B8 g kk l s t (.slice rp rn rc) (.slice ep en ec) nx)) (.slice rp rn rc) X.i.runs):=by
        show FieldsAt _ _ _ _
        rw [hrr]
        exact (HGX.out.1.up ((Below.refl _ _).alloc (Nat.le_refl _) _)).fields
      have hlt':(k:Int) < (n:Int):=by omega
      clear hxk hc hg hB hX hrr
      go_wp2_with fail
      refine (bbytes_any _ X.i.runs _ HRF.out).mono ?_
      rintro e w2 ⟨rfl,hb2⟩
      have HB2:Hid (Below w.heap.size w w2):=(hbl.alloc hsz _).trans (hb2.mono (by simp;omega))
      clear hb2
      obtain ⟨sm,hsm⟩:∃ sm,Bl.sumw X.i.runs = sm:=⟨_,rfl⟩
      rw [hsm] at HS ⊢
      clear hsm
      go_wp2
      go_roundw
      case rel=>exact ⟨k + 1,_,by omega,by go_num,rfl,by rw [HS.out,← HY.out],HB2.out⟩
      case measure=>simp [intOf];omega
    · obtain rfl : k = n := by omega
      have HE:Hid (y = allBytes (pl L)):=by
        have h:=HY.out
        rw [List.take_of_length_le (by simp [pl,HN.out])] at h
        exact h
      go_wp2
      go_ret
      exact ⟨by rw [HE.out];rfl,hbl⟩
end Go.Proofs.YtggoccfddnpelaaGreat
