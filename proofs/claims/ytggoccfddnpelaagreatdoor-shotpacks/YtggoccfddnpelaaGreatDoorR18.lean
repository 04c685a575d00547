/- ZAttr, TAppend, TUnpack, ZIno, NName, as one. -/
import Derived.Test.YtggoccfddnpelaaGreatDoorR17
namespace Go.Proofs.YtggoccfddnpelaaGreatDoor
open Go.ChangeShapes Go.WideShapes Go.ChangeAt Go.RowKit Go.Deep It
set_option maxRecDepth 100000
abbrev VAx (a:Int × Int × Int × Int):Value:=.agg #[.int .i64 a.1,.int .i64 a.2.1,.int .i64 a.2.2.1,.int .i64 a.2.2.2]
theorem Tr.below {b A:Nat} {s:ByteArray} {o:Obj} {w w1 w2:World} (h:Tr b A s o w w1) (k:Below w1.heap.size w1 w2):Tr b A s o w w2 :=
  ⟨⟨(k.block b (Array.getElem?_eq_some_iff.1 h.tx.box).1).trans h.tx.box,grown_trans h.tx.gr (grown_of_below k _)⟩,(k.block A (Array.getElem?_eq_some_iff.1 h.at_).1).trans h.at_,h.ne,h.new⟩
set_option maxHeartbeats 1000000 in
theorem vattr_any (b:Nat) (s:ByteArray) (w:World) (h:w.heap[b]? = some (BT s)) (hs:s.size<=maxLen) :
    Calls Tryz.prog 80 #[.pointer (some ⟨b,0,none⟩)] w fun e w'=>e = .returned (VAx (Sh.rdA s))/\Tx b (Sh.dr 12 s) w w':=by
  obtain ⟨a,ha⟩:∃ a,Sh.rdA s = a:=⟨_,rfl⟩
  have HU:Hid (Ks.Rs.At.unpOut (Sh.tk 12 s) = VAx a):=by show _ = _;rw [← ha];exact Ks.Rs.Re.ua_out _
  rw [ha]
  clear ha
  obtain ⟨A,hA⟩:∃ n,n = w.heap.size:=⟨_,rfl⟩
  obtain ⟨W,hW⟩:∃ W,W = w.alloc (.cells #[.int .i64 0,.int .i64 0,.int .i64 0,.int .i64 0] 39):=⟨_,rfl⟩
  have HT0:Hid (Tr b A s (.cells #[.int .i64 0,.int .i64 0,.int .i64 0,.int .i64 0] 39) w W):=by show Tr _ _ _ _ _ _;rw [hW,hA];exact tr_new h _
  have HW:Hid (W = w.alloc (.cells #[.int .i64 0,.int .i64 0,.int .i64 0,.int .i64 0] 39)/\A = w.heap.size):=⟨hW,hA⟩
  have HZ:Hid (s.size<=maxLen):=hs
  clear h hs hW hA
  go_enter Tryz.func80,Tryz.ntmps80
  go_wp2_with fail
  rw [← HW.out.1,← HW.out.2]
  clear HW
  refine (take_any b 12 s _ HT0.out.tx.box HZ.out).mono ?_
  rintro e w1 ⟨rfl,rfl⟩
  have HT1:Hid (Tr b A (Sh.dr 12 s) (.cells #[.int .i64 0,.int .i64 0,.int .i64 0,.int .i64 0] 39) w (W.setCell ⟨b,0,none⟩ (.string (Sh.dr 12 s)))):=HT0.out.call (tx_set HT0.out.tx.box _)
  clear HT0
  go_wp2_with fail
  refine (Ks.Rs.aunpack_any (Sh.tk 12 s) _).mono ?_
  rintro e w2 ⟨rfl,hb⟩
  rw [HU.out]
  have HT2:Hid (Tr b A (Sh.dr 12 s) (.cells #[.int .i64 0,.int .i64 0,.int .i64 0,.int .i64 0] 39) w w2):=HT1.out.below hb
  have c0:=cell_at HT2.out.at_ 0
  have c1:=cell_at HT2.out.at_ 1
  have c2:=cell_at HT2.out.at_ 2
  have c3:=cell_at HT2.out.at_ 3
  have f0:=fr_at HT2.out.at_
  have hl:=(Array.getElem?_eq_some_iff.1 HT2.out.at_).1
  simp at c0 c1 c2 c3
  clear hb HT1
  have HF:Hid (Tr b A (Sh.dr 12 s) (.cells #[.int .i64 a.1,.int .i64 a.2.1,.int .i64 a.2.2.1,.int .i64 a.2.2.2] 39) w (((((w2.setCell ⟨A,0,none⟩ (.int .i64 a.1)).setCell ⟨A,1,none⟩ (.int .i64 a.2.1)).setCell ⟨A,2,none⟩ (.int .i64 a.2.2.1)).setCell ⟨A,3,none⟩ (.int .i64 a.2.2.2)).alloc (.cells #[.int .i64 a.1,.int .i64 a.2.1,.int .i64 a.2.2.1,.int .i64 a.2.2.2] 39))):=((((HT2.out.set 0 _).set 1 _).set 2 _).set 3 _).below ((Below.refl _ _).alloc (Nat.le_refl _) _)
  go_wp2
  generalize (((((w2.setCell ⟨A,0,none⟩ (.int .i64 a.1)).setCell ⟨A,1,none⟩ (.int .i64 a.2.1)).setCell ⟨A,2,none⟩ (.int .i64 a.2.2.1)).setCell ⟨A,3,none⟩ (.int .i64 a.2.2.2)).alloc (.cells #[.int .i64 a.1,.int .i64 a.2.1,.int .i64 a.2.2.1,.int .i64 a.2.2.2] 39)) = WF at HF ⊢
  have d0:=cell_at HF.out.at_ 0
  have d1:=cell_at HF.out.at_ 1
  have d2:=cell_at HF.out.at_ 2
  have d3:=cell_at HF.out.at_ 3
  simp at d0 d1 d2 d3
  clear c0 c1 c2 c3 HT2 f0 hl
  refine bodyPost_ret (v:=VAx a) ?_ rfl ⟨rfl,?_⟩
  · rw [results_cell1 rfl]
    go_simp
  · exact HF.out.tx
end Go.Proofs.YtggoccfddnpelaaGreatDoor
namespace Go.Proofs.YtggoccfddnpelaaGreatDoor.Ks
set_option maxRecDepth 100000
namespace App
open Go.RowKit
section
variable {P:Program} (w:World)
theorem run_room {size:Nat} (t tx ty e:TypeId) (i:TypeInfo) (hsz:i.size = size) (ht:P.underlying t = some (.slice e)) (hi:P.info? e = some i)
    (g sLen sCap:Nat) (cur:Array Value) (hg:w.heap[g]? = some (.cells cur e (0,0)))
    (x:Value) (m:Nat) (news:List Value) (hs:Src P size tx x m news w)
    (hroom:sLen + m<=sCap) (hfit:sLen * i.size + news.length<=cur.size) :
    (Builtin.append_ #[t,tx] ty #[.slice (some ⟨g,0,none⟩) sLen sCap,x]).run P w =
      .ok (.slice (some ⟨g,0,none⟩) (sLen + m) sCap) (w.setRow g (cur.toList.take (sLen * i.size) ++ news ++ cur.toList.drop (sLen * i.size + news.length)).toArray):=by
  subst hsz
  have hst:=run_storeCells_at P g (sLen * i.size) e news 0 cur w hg (by simpa using hfit) hs.one
  simp only [Nat.add_zero] at hst
  rcases hs.kind with ⟨e',hk⟩ | hk <;> simp [Builtin.append_,run_underlying ht,run_underlying hk,sizeOf,typeInfo,hi,hs.len,hroom,hs.cells,Addr.add_lit,hst]
theorem run_own (base : Nat) (t tx ty e : TypeId) (i : TypeInfo) (z : Value) (size bytes : Nat) (ht : P.underlying t = some (.slice e)) (hi : P.info? e = some i) (hz : i.zero = some z)
    (hsize:i.size = size) (hby:i.bytes = bytes) (hzs:z.cells.size = size)
    (v:Value) (n:Nat) (xs:List Value) (hown:w.ownsRow base e size v n xs)
    (x:Value) (m:Nat) (news:List Value) (hs:Src P size tx x m news w)
    (h63:n + m<=maxLen) (hbytes:(n + m) * bytes<=140737488355328) (hbase:base<=w.heap.size) :
    ∃ v' w',(Builtin.append_ #[t,tx] ty #[v,x]).run P w = .ok v' w'/\w'.ownsRow base e size v' (n + m) (xs ++ news)/\w.grownBy w' v.ownBlock:=by
  subst hsize
  subst hby
  have hsmall:n + m<=9223372036854775807:=by simp only [maxLen] at h63;omega
  have hl:=hs.newsLen
  have hlen:(xs ++ news).length = (n + m) * i.size:=by rw [List.length_append,hown.1,hl,Nat.add_mul]
  have grown:∀ (old:Nat),old < n + m->∀ (row:Option Nat),
      (w.drew.alloc (.cells ((xs ++ news).toArray ++ Builtin.zeroCells z.cells (grownCap w (n + m) old e - (n + m))) e)).ownsRow base e i.size
        (.slice (some ⟨w.heap.size,0,none⟩) (n + m) (grownCap w (n + m) old e)) (n + m) (xs ++ news) /\
      w.grownBy (w.drew.alloc (.cells ((xs ++ news).toArray ++ Builtin.zeroCells z.cells (grownCap w (n + m) old e - (n + m))) e)) row:=by
    intro old ho row
    have hge:=grownCap_ge w (n + m) old e
    have hcm:grownCap w (n + m) old e<=maxLen:=grownCap_le_maxLen w (n + m) old e h63
    refine ⟨⟨hlen,.inr ⟨w.heap.size,_,_,rfl,hbase,heap_alloc_new w.drew _,hge,hcm,?_,?_⟩⟩,⟨rfl,rfl,rfl,by simp,fun k hk _=>Below.heap_alloc w.drew _ k hk⟩⟩
    · simp only [Array.size_append, List.size_toArray, size_zeroCells, hzs, hlen, ← Nat.add_mul]
      congr 1
      omega
    · simp only [Array.toList_append]
      rw [← hlen]
      exact List.take_left
  rcases hown.2 with ⟨rfl,rfl⟩ | ⟨g,cap,cur,rfl,hbg,hg,hnc,hcm,hcs,htake⟩
  · have hx : xs = [] := List.eq_nil_of_length_eq_zero (by simpa using hown.1)
    subst hx
    by_cases hm:m = 0
    · subst hm
      have hn:news = []:=List.eq_nil_of_length_eq_zero (by simpa using hl)
      subst hn
      refine ⟨.slice none 0 0,w,?_,World.ownsRow_nil w base e i.size,⟨rfl,rfl,rfl,Nat.le_refl _,fun _ _ _=>rfl⟩⟩
      rcases hs.kind with ⟨e',hk⟩ | hk <;> simp [Builtin.append_,run_underlying ht,run_underlying hk,sizeOf,typeInfo,hi,hs.len,hs.cells]
    · have hr := run_append_grow_src (P := P) w t tx ty e i z ht hi hz none 0 0 [] (run_firstCells_none w.drew _ _ _ _) x m news hs (by omega) (by omega) (growslice_fits (by omega) hbytes)
      have hgr:=grown 0 (by omega) (Value.ownBlock (.slice none 0 0))
      simp only [Nat.zero_add,List.nil_append] at hgr hr ⊢
      exact ⟨_,_,hr,hgr.1,hgr.2⟩
  · by_cases hroom : n + m ≤ cap
    · have hfit : n * i.size + news.length ≤ cur.size := by rw [hl, hcs, ← Nat.add_mul]; exact Nat.mul_le_mul_right _ hroom
      have hr:=run_room (P:=P) w t tx ty e i rfl ht hi g n cap cur hg x m news hs hroom hfit
      refine ⟨_,_,hr,⟨hlen,.inr ⟨g,cap,_,rfl,hbg,setRow_heap w g cur _ e _ hg,hroom,hcm,?_,?_⟩⟩,⟨rfl,rfl,rfl,by simp,fun k _ hk=>setRow_other w g k _ (fun e=>hk (by simp [Value.ownBlock,e]))⟩⟩
      · simp only [List.size_toArray, List.length_append, List.length_take, List.length_drop, Array.length_toList]
        omega
      · rw [htake, ← hlen]
        exact List.take_left
    · have holds : ∀ j u, xs[j]? = some u → w.cell? ((⟨g, 0, none⟩ : Addr).add j) = some u := hown.cells (g := g) rfl
      have hr:=run_append_grow_src (P:=P) w t tx ty e i z ht hi hz (some ⟨g,0,none⟩) n cap xs (run_firstCells_some w.drew _ _ _ _ _ xs hown.1 (by simpa using holds)) x m news hs (by omega) (by omega) (growslice_fits (by omega) hbytes)
      have hgr:=grown cap (by omega) (Value.ownBlock (.slice (some ⟨g,0,none⟩) n cap))
      exact ⟨_,_,hr,hgr.1,hgr.2⟩
theorem wpList_own {ops:Array Oper} {rest:List Oper} {o:Oper} {a:Act} {Q:Exit->Act->World->Prop} (hgd:o.guard = none) (s x:Operand) (t tx:TypeId)
    (ho:o.op = .call { callee:=.builtin .append,args:=#[s,x],argTypes:=#[t,tx] })
    (base:Nat) (e:TypeId) (i:TypeInfo) (z:Value) (size bytes:Nat) (ht:P.underlying t = some (.slice e)) (hi:P.info? e = some i) (hz:i.zero = some z)
    (hsize:i.size = size) (hby:i.bytes = bytes) (hzs:z.cells.size = size)
    (v:Value) (n:Nat) (xs:List Value) (hv:a.eval s = v) (hown:w.ownsRow base e size v n xs)
    (xv:Value) (m:Nat) (news:List Value) (hx:a.eval x = xv) (hs:Src P size tx xv m news w)
    (h63:n + m<=maxLen) (hbytes:(n + m) * bytes<=140737488355328) (hbase:base<=w.heap.size)
    (h:∀ v' w',w'.ownsRow base e size v' (n + m) (xs ++ news)->w.grownBy w' v.ownBlock->wpList P ops Q rest (a.put o.dst v') w'):wpList P ops Q (o :: rest) a w :=
  wpList_plain hgd fun _ hK=>by
    obtain ⟨v',w',hr,h2,h3⟩:=run_own (P:=P) w base t tx o.type e i z size bytes ht hi hz hsize hby hzs v n xs hown xv m news hs h63 hbytes hbase
    unfold Oper.wp execOp
    simp only [ho,resolve,invoke,builtin,Sem.run_bind,Sem.run_pure,Result.andThen_ok,List.map_toArray,List.map_cons,List.map_nil,hv,hx,hr]
    exact hK _ _ (h v' w' h2 h3)
end
/-- A block of two cells that an append onto an own row of another element type leaves alone. -/
theorem keep {w w':World} {base:Nat} {e size:Nat} {v:Value} {n:Nat} {xs:List Value} (h:w.ownsRow base e size v n xs) (hg:w.grownBy w' v.ownBlock) {b:Nat} {c:Array Value} {t:TypeId} {fr:Nat × Nat}
    (hb:w.heap[b]? = some (.cells c t fr)) (hne:t≠e):w'.heap[b]? = some (.cells c t fr):=by
  have hlt:b < w.heap.size:=by
    rcases Nat.lt_or_ge b w.heap.size with h' | h'
    · exact h'
    · rw [Array.getElem?_eq_none h'] at hb;cases hb
  rw [hg.block b hlt ?_,hb]
  intro heq
  rcases h.2 with ⟨rfl,_⟩ | ⟨g,cap,cur,rfl,hbg,hgg,hnc,hcm,hcs,htake⟩
  · simp [Value.ownBlock] at heq
  · simp only [Value.ownBlock, Option.some.injEq] at heq
    subst heq
    rw [hgg] at hb
    simp at hb
    exact hne hb.2.1.symm
theorem cell_of_two {w:World} {b:Nat} {x y:Value} {t:TypeId} {fr:Nat × Nat} (hb:w.heap[b]? = some (.cells #[x,y] t fr)):w.cell? ⟨b,0,none⟩ = some x/\w.cell? ⟨b,1,none⟩ = some y:=by
  constructor <;> simp [World.cell?,hb]
theorem three_new (W:World) (g:Nat) (hg:g = W.heap.size) (a b c:Value) (T:TypeId):∀ j u,[a,b,c][j]? = some u->(W.alloc (.cells #[a,b,c] T)).cell? ((⟨g,0,none⟩:Addr).add j) = some u:=by
  subst hg
  intro j u hj
  rw [Go.WideShapes.add_plain]
  match j,hj with
  | 0,hj=>simp at hj;subst hj;simp
  | 1,hj=>simp at hj;subst hj;simp
  | 2,hj=>simp at hj;subst hj;simp
theorem two_new (W:World) (g:Nat) (hg:g = W.heap.size) (a b:Value) (T:TypeId):∀ j u,[a,b][j]? = some u->(W.alloc (.cells #[a,b] T)).cell? ((⟨g,0,none⟩:Addr).add j) = some u:=by
  subst hg
  intro j u hj
  rw [Go.WideShapes.add_plain]
  match j,hj with
  | 0,hj=>simp at hj;subst hj;simp
  | 1,hj=>simp at hj;subst hj;simp
theorem one3 (a b c:Int):∀ u∈[Value.int .u8 a,.int .u8 b,.int .u8 c],u.oneCell' = true:=by
  intro u hu
  simp at hu
  rcases hu with rfl | rfl | rfl <;> rfl
theorem one2 (a:Int) (s:ByteArray):∀ u∈[Value.int .i64 a,.string s],u.oneCell' = true:=by
  intro u hu
  simp at hu
  rcases hu with rfl | rfl <;> rfl
end App
end Go.Proofs.YtggoccfddnpelaaGreatDoor.Ks
namespace Go.Proofs.YtggoccfddnpelaaGreatDoor.Ks
open Go.ChangeShapes Go.WideShapes Go.ChangeAt Go.RowKit Go.Deep
set_option maxRecDepth 100000
theorem own_drewN {w:World} {base:Nat} {e:TypeId} {size:Nat} {v:Value} {n:Nat} {xs:List Value} (h:w.ownsRow base e size v n xs) (k:Nat):(w.drewN k).ownsRow base e size v n xs:=h
theorem extract_rest (S:ByteArray) (a:Nat):(S.extract a S.size).data.toList = S.data.toList.drop a:=by
  rw [Pl.extract_txt,Pl.txt_data,List.take_of_length_le (by simp)]
theorem info53:(Tryz.prog.info? 53).map (fun i=>(i.zero,i.size,i.bytes)) = some (some (.agg #[.int .i64 0,.string ⟨#[]⟩]),2,24):=by kernel_rfl
set_option maxHeartbeats 2000000 in
theorem unpack_any (s : ByteArray) (w : World) (hs : s.size ≤ 1048576) :
    Calls Tryz.prog 45 #[.string s] w fun e w'=>∃ r,e = .returned (.tuple #[r,.int .i64 (Pl.unpErr s.data.toList)]) /\
      w'.ownsRow w.heap.size 53 2 r (Pl.unpOut s.data.toList).length (cellsOf (Pl.unpOut s.data.toList))/\Below w.heap.size w w':=by
  obtain ⟨i0,hi,hz0,hz1,hz2⟩:=info_parts info53
  have hsl:s.data.toList.length = s.size:=by simp
  have HM0:Hid (Pl.Mid s.data.toList [] 1 s.data.toList):=Pl.Mid.start _
  obtain ⟨L,hL⟩:∃ L,s.data.toList = L:=⟨_,rfl⟩
  rw [hL] at hsl ⊢
  have HL:Hid (s.data.toList = L):=hL
  have HSL:Hid (L.length = s.size):=hsl
  clear hL hsl
  go_enter Tryz.func45,Tryz.ntmps45
  go_wp2
  go_step3
  go_wp2
  go_step3
  go_wp2
  go_loopw [0,4,5] (fun z r t wr=>∃ (S:ByteArray) (done:List (Int × ByteArray)) (la:Int),z = .string S/\t = .int .i64 la/\S.size<=1048576/\la<=255/\Pl.Mid L done la S.data.toList /\
      wr.ownsRow w.heap.size 53 2 r done.length (cellsOf done)/\Below w.heap.size w wr) (fun z _ _ _=>match z with | .string S=>S.size | _=>0)
  case atStart=>exact ⟨s,[],1,rfl,rfl,hs,by omega,by rw [HL.out];exact Pl.Mid.start L,World.ownsRow_nil _ _ _ _,Below.refl _ _⟩
  case round =>
    obtain ⟨S,done,la,rfl,rfl,hS,hla,hmid,hown,hbl⟩:=hrel
    have hsz:=hbl.size
    have HM:Hid (Pl.Mid L done la S.data.toList):=hmid
    have hdl:done.length<=1048576:=by have:=hmid.1;have:=HSL.out;omega
    have hln:S.data.toList.length = S.size:=by simp
    clear hmid
    by_cases h0:S.size = 0
    · have hnil : S.data.toList = [] := List.eq_nil_of_length_eq_zero (by omega)
      have hem:S.toList.isEmpty = true:=by rw [ByteArray.toList_eq,hnil];rfl
      have H:Hid (Pl.unpOut L = done/\Pl.unpErr L = 0):=by
        have:=HM.out
        rw [hnil] at this
        exact this.finish
      clear hnil hln h0
      go_wp2
      rw [Exit.noGoto_ret]
      go_ret2
      rw [H.out.1,H.out.2]
      exact ⟨_,rfl,hown,hbl⟩
    · have hnn : S.data.toList ≠ [] := by
        intro h
        rw [h] at hln
        simp at hln
        omega
      have hne:S.toList.isEmpty = false:=by rw [ByteArray.toList_eq,List.isEmpty_eq_false_iff];exact hnn
      have HNN:Hid (S.data.toList≠[]):=hnn
      clear hnn
      by_cases h1:S.size < 3
      · have H : Hid (Pl.unpOut L = [] ∧ Pl.unpErr L = 10) := HM.out.fail HNN.out (by simp [Pl.stepErr, hln, h1]) (by decide)
        clear hln
        go_wp2
        rw [Exit.noGoto_ret]
        go_ret2
        rw [H.out.1,H.out.2]
        exact ⟨_,rfl,World.ownsRow_nil _ _ _ _,hbl⟩
      · have p0 : 0 < S.size := by omega
        have p1:1 < S.size:=by omega
        have p2:2 < S.size:=by omega
        have e0:Pl.tagOf S.data.toList = ((S[0]'p0).toNat:Int):=by rw [Pl.tagOf,Pl.getD_at S 0 p0]
        have e1:Pl.lenOf S.data.toList = 256 * (S[1]'p1).toNat + (S[2]'p2).toNat:=by rw [Pl.lenOf,Pl.getD_at S 1 p1,Pl.getD_at S 2 p2]
        have b0:(S[0]'p0).toNat < 256:=(S[0]'p0).toNat_lt
        have b1:(S[1]'p1).toNat < 256:=(S[1]'p1).toNat_lt
        have b2:(S[2]'p2).toNat < 256:=(S[2]'p2).toNat_lt
        by_cases h2:(S[0]'p0).toNat = 0
        · have h2' : (((S[0]'p0).toNat : Int) == 0) = true := by simp; omega
          have H:Hid (Pl.unpOut L = []/\Pl.unpErr L = 4):=HM.out.fail HNN.out (by simp [Pl.stepErr,hln,h1,e0,h2]) (by decide)
          clear e0 e1 hln h2
          go_wp2
          rw [Exit.noGoto_ret]
          go_ret2
          rw [H.out.1,H.out.2]
          exact ⟨_,rfl,World.ownsRow_nil _ _ _ _,hbl⟩
        · have h2' : (((S[0]'p0).toNat : Int) == 0) = false := by simp; omega
          by_cases h3:((S[0]'p0).toNat:Int) < la
          · have H : Hid (Pl.unpOut L = [] ∧ Pl.unpErr L = 11) := HM.out.fail HNN.out (by
              unfold Pl.stepErr
              rw [e0,hln,if_neg h1,if_neg (by omega),if_pos h3]) (by decide)
            clear e0 e1 hln h2
            go_wp2
            rw [Exit.noGoto_ret]
            go_ret2
            rw [H.out.1,H.out.2]
            exact ⟨_,rfl,World.ownsRow_nil _ _ _ _,hbl⟩
          · have q1 : (1 : Int) < (S.size : Int) := by omega
            have q2:(2:Int) < (S.size:Int):=by omega
            by_cases h4:(S.size:Int) < 3 + ((S[1]'p1).toNat:Int) * 256 + ((S[2]'p2).toNat:Int)
            · have H : Hid (Pl.unpOut L = [] ∧ Pl.unpErr L = 10) := HM.out.fail HNN.out (by
                unfold Pl.stepErr
                rw [e0,e1,hln,if_neg h1,if_neg (by omega),if_neg h3,if_pos (by omega)]) (by decide)
              clear e0 e1 hln h2
              go_wp2
              go_quiet (fail)
              go_wp2
              rw [Exit.noGoto_ret]
              go_ret2
              rw [H.out.1,H.out.2]
              exact ⟨_,rfl,World.ownsRow_nil _ _ _ _,Go.below_drewN hbl _⟩
            · have HST : Hid (Pl.Mid L (done ++ [Pl.fieldOf S.data.toList]) (Pl.tagOf S.data.toList) (S.data.toList.drop (3 + Pl.lenOf S.data.toList))) := HM.out.step HNN.out (by
                unfold Pl.stepErr
                rw [e0,e1,hln,if_neg h1,if_neg (by omega),if_neg h3,if_neg (by omega)])
              have HFO:Hid (Pl.fieldOf S.data.toList = (((S[0]'p0).toNat:Int),S.extract 3 (3 + (S[1]'p1).toNat * 256 + (S[2]'p2).toNat))):=by
                show Pl.fieldOf S.data.toList = _
                unfold Pl.fieldOf
                rw [e0,e1,Pl.extract_txt,show 3 + (S[1]'p1).toNat * 256 + (S[2]'p2).toNat - 3 = 256 * (S[1]'p1).toNat + (S[2]'p2).toNat from by omega]
              have HE0:Hid (Pl.tagOf S.data.toList = ((S[0]'p0).toNat:Int)):=e0
              have HE1:Hid (Pl.lenOf S.data.toList = 256 * (S[1]'p1).toNat + (S[2]'p2).toNat):=e1
              clear e0 e1 hln h2
              go_wp2
              go_quiet (fail)
              go_wp2_with (at_builtin;refine wpList_append_own _ rfl (.tmp 40) (.tmp 46) 54 rfl w.heap.size 53 i0 (.agg #[.int .i64 0,.string ⟨#[]⟩]) 2 24 Tryz.underlying54 hi hz0 hz1 hz2 rfl (by decide) _ _ _ rfl ((own_drewN hown _).alloc _) ⟨wr.heap.size,0,none⟩ 1 1 [.int .i64 ((S[0]'p0).toNat:Int),.string (S.extract 3 (3 + (S[1]'p1).toNat * 256 + (S[2]'p2).toNat))] rfl rfl (App.two_new _ _ rfl _ _ _) (App.one2 _ _) (by unfold maxLen;omega) (by omega) (by first | omega | (simp;omega)) ?_;intro v1 w1 hown1 hgrow1 _)
              go_roundw
              case rel =>
                refine ⟨_,done ++ [Pl.fieldOf S.data.toList],Pl.tagOf S.data.toList,rfl,by rw [HE0.out],?_,by rw [HE0.out];omega,?_,?_,?_⟩
                · rw [ByteArray.size_extract];omega
                · rw [extract_rest, show 3 + (S[1]'p1).toNat * 256 + (S[2]'p2).toNat = 3 + Pl.lenOf S.data.toList from by rw [HE1.out]; omega]
                  exact HST.out
                · rw [HFO.out, cellsOf_append, List.length_append]
                  exact hown1
                · exact ((Go.below_drewN hbl _).alloc hsz _).grown hgrow1 (by simp;omega) (fun g hg=>(hown.lt g hg).1)
              case measure=>simp only [ByteArray.size_extract];omega
end Go.Proofs.YtggoccfddnpelaaGreatDoor.Ks
namespace Go.Proofs.YtggoccfddnpelaaGreatDoor
open Go.ChangeShapes Go.WideShapes Go.ChangeAt Go.RowKit Go.Deep It
set_option maxRecDepth 100000
theorem step_row {α:Type} {P:Program} {w:World} {ops:Array Oper} {o:Oper} {a:Act} {K:Act->World->Prop} {Q:Exit->Act->World->Prop} {X:Prop} (hgd:o.guard = none) (s x:Operand) (t:TypeId)
    (ho:o.op = .call { callee:=.builtin .append,args:=#[s,x],argTypes:=#[t,t] }) (E:Enc α) (S:Nat->Prop)
    (B:Nat) (e:TypeId) (i:TypeInfo) (z:Value) (bytes:Nat) (ht:P.underlying t = some (.slice e)) (hi:P.info? e = some i) (hz:i.zero = some z) (hsize:i.size = E.sz) (hby:i.bytes = bytes) (hzs:z.cells.size = E.sz)
    (v:Value) (ls:List α) (hv:a.eval s = v) (hrow:Row E w B e v ls) (xv:Value) (xs:List α) (hxv:a.eval x = xv) (hx:At E S w xv xs) (h63:ls.length + xs.length<=maxLen) (hbytes:(ls.length + xs.length + (ls.length + xs.length) / 4 + 192) * bytes<=281474976710656) (hbase:B<=w.heap.size)
    (h:∀ v' w',Row E w' B e v' (ls ++ xs)->w.grownBy w' v.ownBlock->(v'.ownBlock = v.ownBlock∨∀ j,v'.ownBlock = some j->w.heap.size<=j)->K (a.put o.dst v') w') :
    if Region.wanted o (yielded ops a.tmps) = true then Oper.wp P o a w K Q else X:=by
  have hw:Region.wanted o (yielded ops a.tmps) = true:=by simp [Region.wanted,hgd]
  rw [if_pos hw]
  obtain ⟨v',w',hr,h2,h3,h4⟩:=Row.append_run (P:=P) w E S B t o.type e i z bytes ht hi hz hsize hby hzs v ls hrow xv xs hx h63 hbytes hbase
  unfold Oper.wp execOp
  simp only [ho,resolve,invoke,builtin,Sem.run_bind,Sem.run_pure,Result.andThen_ok,List.map_toArray,List.map_cons,List.map_nil,hv,hxv,hr]
  exact h v' w' h2 h3 h4
/-- A block of another kind is no row's. -/
theorem Row.off {α:Type} {E:Enc α} {w:World} {B:Nat} {e T:TypeId} {v:Value} {ls:List α} {b:Nat} {o:Array Value} (h:Row E w B e v ls) (hb:w.heap[b]? = some (.cells o T (0,0))) (hT:T≠e):v.ownBlock = none∨v.ownBlock≠some b:=by
  rcases h with ⟨rfl,rfl⟩ | ⟨g,cap,cur,rfl,hB,hh,_⟩
  · exact .inl rfl
  · refine .inr fun hq => ?_
    have e1:g = b:=by simpa [Value.ownBlock] using hq
    subst e1
    rw [hb] at hh
    simp at hh
    exact hT hh.2
theorem Row.off' {α:Type} {E:Enc α} {w:World} {B:Nat} {e T:TypeId} {v:Value} {ls:List α} {b:Nat} {o:Array Value} (h:Row E w B e v ls) (hb:w.heap[b]? = some (.cells o T (0,0))) (hT:T≠e):v.ownBlock≠some b:=by
  rcases h.off hb hT with h1 | h1
  · rw [h1];simp
  · exact h1
/-- Two rows of two kinds are two. -/
theorem Row.apart {α β:Type} {E:Enc α} {G:Enc β} {w:World} {B C:Nat} {e f:TypeId} {v u:Value} {ls:List α} {ms:List β} (h:Row E w B e v ls) (k:Row G w C f u ms) (hef:e≠f):v.ownBlock = none∨v.ownBlock≠u.ownBlock:=by
  rcases k with ⟨rfl,rfl⟩ | ⟨g,cap,cur,rfl,hB,hh,_⟩
  · rcases h with ⟨rfl, rfl⟩ | ⟨g, cap, cur, rfl, _⟩
    · exact .inl rfl
    · exact .inr (by simp [Value.ownBlock])
  · exact h.off hh (Ne.symm hef)
abbrev BI (x:Ino) (rv ev:Value):Obj:=.cells #[.int .i64 x.gen,.int .i64 x.kind,.int .i64 x.links,.int .i64 x.size,.int .i64 x.stamp,rv,ev,.int .i64 x.next] 43
structure RI (n0 A:Nat) (x:Ino) (rv ev:Value) (w0 w:World):Prop where
  box:w.heap[A]? = some (BI x rv ev)
  rows:Row ER w n0 45 rv x.runs
  rowE:Row EE w n0 79 ev x.ents
  base:n0<=A
  bl:Below n0 w0 w
  st:n0<=w0.heap.size
section
variable {n0 A:Nat} {x:Ino} {rv ev:Value} {w0 w w':World}
theorem RI.sz (h:RI n0 A x rv ev w0 w):n0<=w.heap.size:=Nat.le_trans h.st h.bl.size
theorem RI.lt (h:RI n0 A x rv ev w0 w):A < w.heap.size:=(Array.getElem?_eq_some_iff.1 h.box).1
theorem RI.up (h:RI n0 A x rv ev w0 w) (hb:Below w.heap.size w w'):RI n0 A x rv ev w0 w':=⟨(hb.block _ h.lt).trans h.box,h.rows.up hb,h.rowE.up hb,h.base,h.bl.trans (hb.mono h.sz),h.st⟩
theorem RI.drew (h:RI n0 A x rv ev w0 w):RI n0 A x rv ev w0 w.drew:=⟨h.box,h.rows,h.rowE,h.base,h.bl.drew,h.st⟩
theorem RI.tx {b:Nat} {s t:ByteArray} (h:RI n0 A x rv ev w0 w) (hb:w.heap[b]? = some (BT s)) (hn:n0<=b) (k:Tx b t w w'):RI n0 A x rv ev w0 w':=by
  have hne:A≠b:=by
    rintro rfl
    rw [h.box] at hb
    cases hb
  exact ⟨k.at h.box hne,h.rows.kept k.gr (h.rows.off hb (by decide)),h.rowE.kept k.gr (h.rowE.off hb (by decide)),h.base,k.below h.bl hn h.sz,h.st⟩
/-- The box written anew, the lists as they were. -/
theorem RI.set {y:Ino} {u:Value} {k:Nat} (h:RI n0 A x rv ev w0 w) (hr:y.runs = x.runs) (he:y.ents = x.ents) (hc:(#[.int .i64 x.gen,.int .i64 x.kind,.int .i64 x.links,.int .i64 x.size,.int .i64 x.stamp,rv,ev,.int .i64 x.next]:Array Value).setIfInBounds k u = #[.int .i64 y.gen,.int .i64 y.kind,.int .i64 y.links,.int .i64 y.size,.int .i64 y.stamp,rv,ev,.int .i64 y.next]):RI n0 A y rv ev w0 (w.setCell ⟨A,k,none⟩ u):=by
  have hg:w.grownBy (w.setCell ⟨A,k,none⟩ u) (some A):=⟨rfl,rfl,rfl,by simp [World.setCell],fun j hj hk=>Below.heap_setCell _ _ _ _ (fun e=>hk (by rw [e]))⟩
  refine ⟨?_,?_,?_,h.base,h.bl.grown hg h.sz (fun j hj=>by cases hj;exact h.base),h.st⟩
  · have := set_at h.box k u
    rw [hc] at this
    exact this
  · rw [hr];exact h.rows.kept hg (h.rows.off h.box (by decide))
  · rw [he];exact h.rowE.kept hg (h.rowE.off h.box (by decide))
/-- A run more. -/
theorem RI.run {r:Int × ByteArray} {v9:Value} {w9:World} (h:RI n0 A x rv ev w0 w) (hr:Row ER w9 n0 45 v9 (x.runs ++ [r])) (hg:w.grownBy w9 rv.ownBlock):RI n0 A { x with runs:=x.runs ++ [r] } v9 ev w0 (w9.setCell ⟨A,5,none⟩ v9)/\w9.heap[A]? = some (BI x rv ev):=by
  have hb:w9.heap[A]? = some (BI x rv ev):=(hg.block A h.lt (fun e=>h.rows.off' h.box (by decide) e.symm)).trans h.box
  have hg2:w9.grownBy (w9.setCell ⟨A,5,none⟩ v9) (some A):=⟨rfl,rfl,rfl,by simp [World.setCell],fun j hj hk=>Below.heap_setCell _ _ _ _ (fun e=>hk (by rw [e]))⟩
  have he:Row EE w9 n0 79 ev x.ents:=h.rowE.kept hg (h.rowE.apart h.rows (by decide))
  have hB:Below n0 w0 w9:=h.bl.grown hg h.sz (fun j hj=>(h.rows.lt j hj).1)
  exact ⟨⟨set_at hb 5 v9,hr.kept hg2 (hr.off hb (by decide)),he.kept hg2 (he.off hb (by decide)),h.base,hB.grown hg2 (Nat.le_trans h.sz hg.size) (fun j hj=>by cases hj;exact h.base),h.st⟩,hb⟩
/-- An entry more. -/
theorem RI.ent {r:ByteArray × Int × Int × Int} {v9:Value} {w9:World} (h:RI n0 A x rv ev w0 w) (hr:Row EE w9 n0 79 v9 (x.ents ++ [r])) (hg:w.grownBy w9 ev.ownBlock):RI n0 A { x with ents:=x.ents ++ [r] } rv v9 w0 (w9.setCell ⟨A,6,none⟩ v9)/\w9.heap[A]? = some (BI x rv ev):=by
  have hb:w9.heap[A]? = some (BI x rv ev):=(hg.block A h.lt (fun e=>h.rowE.off' h.box (by decide) e.symm)).trans h.box
  have hg2:w9.grownBy (w9.setCell ⟨A,6,none⟩ v9) (some A):=⟨rfl,rfl,rfl,by simp [World.setCell],fun j hj hk=>Below.heap_setCell _ _ _ _ (fun e=>hk (by rw [e]))⟩
  have he:Row ER w9 n0 45 rv x.runs:=h.rows.kept hg (h.rows.apart h.rowE (by decide))
  have hB:Below n0 w0 w9:=h.bl.grown hg h.sz (fun j hj=>(h.rowE.lt j hj).1)
  exact ⟨⟨set_at hb 6 v9,he.kept hg2 (he.off hb (by decide)),hr.kept hg2 (hr.off hb (by decide)),h.base,hB.grown hg2 (Nat.le_trans h.sz hg.size) (fun j hj=>by cases hj;exact h.base),h.st⟩,hb⟩
end
theorem at_run {w:World} {B:Nat} {r:Int × ByteArray} (h:w.heap[B]? = some (.cells #[.int .i64 r.1,.string r.2] 45)):AtW ER w (.slice (some ⟨B,0,none⟩) 1 1) [r]:=by
  refine .inr ⟨B,0,1,rfl,trivial,(Array.getElem?_eq_some_iff.1 h).1,by simp,by simp,by unfold maxLen;omega,fun j u hj=>?_⟩
  have c:=cell_at h j
  rw [Nat.zero_add,c]
  have e:ER.flat [r] = [.int .i64 r.1,.string r.2]:=by simp [Enc.flat,ER]
  rw [e] at hj
  simpa using hj
theorem at_ent {w:World} {B:Nat} {r:ByteArray × Int × Int × Int} (h:w.heap[B]? = some (.cells #[.string r.1,.int .i64 r.2.1,.int .i64 r.2.2.1,.int .i64 r.2.2.2] 79)):AtW EE w (.slice (some ⟨B,0,none⟩) 1 1) [r]:=by
  refine .inr ⟨B,0,1,rfl,trivial,(Array.getElem?_eq_some_iff.1 h).1,by simp,by simp,by unfold maxLen;omega,fun j u hj=>?_⟩
  have c:=cell_at h j
  rw [Nat.zero_add,c]
  have e:EE.flat [r] = [.string r.1,.int .i64 r.2.1,.int .i64 r.2.2.1,.int .i64 r.2.2.2]:=by simp [Enc.flat,EE]
  rw [e] at hj
  simpa using hj
end Go.Proofs.YtggoccfddnpelaaGreatDoor
namespace Go.Proofs.YtggoccfddnpelaaGreatDoor.Ks.Rs
open Go.ChangeShapes Go.WideShapes Go.ChangeAt Go.RowKit Go.Deep
set_option maxRecDepth 100000
theorem fwithin_any (lo x hi:Int) (w:World):Calls Tryz.prog 149 #[.int .i64 lo,.int .i64 x,.int .i64 hi] w fun e w'=>e = .returned (.bool (decide (lo<=x/\x<=hi)))/\w' = w:=by
  by_cases h1:lo<=x
  · by_cases h2 : x ≤ hi
    · rw [decide_eq_true (show lo ≤ x ∧ x ≤ hi from ⟨h1, h2⟩)]
      go_enter Tryz.func149,Tryz.ntmps149
      go_wp2
      go_ret
      exact ⟨rfl,rfl⟩
    · rw [decide_eq_false (show ¬ (lo ≤ x ∧ x ≤ hi) from fun h => h2 h.2)]
      go_enter Tryz.func149,Tryz.ntmps149
      go_wp2
      go_ret
      exact ⟨rfl,rfl⟩
  · rw [decide_eq_false (show ¬ (lo ≤ x ∧ x ≤ hi) from fun h => h1 h.1)]
    go_enter Tryz.func149,Tryz.ntmps149
    go_wp2
    go_ret
    exact ⟨rfl,rfl⟩
theorem fwithin_yes (lo x hi:Int) (w:World) (h:lo<=x/\x<=hi):Calls Tryz.prog 149 #[.int .i64 lo,.int .i64 x,.int .i64 hi] w fun e w'=>e = .returned (.bool true)/\w' = w:=by
  have:=fwithin_any lo x hi w
  rwa [decide_eq_true h] at this
theorem fwithin_no (lo x hi:Int) (w:World) (h:¬ (lo<=x/\x<=hi)):Calls Tryz.prog 149 #[.int .i64 lo,.int .i64 x,.int .i64 hi] w fun e w'=>e = .returned (.bool false)/\w' = w:=by
  have:=fwithin_any lo x hi w
  rwa [decide_eq_false h] at this
theorem toList_ne {s:ByteArray} {a:Array UInt8} (h:s≠⟨a⟩):¬ s.toList = a.toList:=fun e=>h (by
  rw [ByteArray.toList_eq] at e
  cases s
  simp at e
  rw [e])
theorem below_iter {w:World} (s:ByteArray) (p:Nat):Below w.heap.size w (w.iter s p):=(Below.refl _ w).alloc (Nat.le_refl _) _
set_option maxHeartbeats 1000000 in
theorem name_any (s : ByteArray) (w : World) (hm : s.size ≤ maxLen) : Calls Tryz.prog 150 #[.string s] w fun e w' => e = .returned (.int .i64 (Nm.err s)) ∧ Below w.heap.size w w' := by
  unfold maxLen at hm
  by_cases h1:1<=(s.size:Int)/\(s.size:Int)<=32
  · have H1 : Hid (1 ≤ (s.size : Int) ∧ (s.size : Int) ≤ 32) := h1
    by_cases h2:s = ⟨#[46]⟩
    · have H : Hid (Nm.err s = 409) := Nm.err_no fun h => h.2.2.1 h2
      rw [H.out]
      subst h2
      go_enter Tryz.func150,Tryz.ntmps150
      go_wp2_with fail
      refine (fwithin_yes _ _ _ _ H1.out).mono ?_
      rintro e w' ⟨rfl,rfl⟩
      go_wp2
      go_ret
      exact ⟨rfl,Below.refl _ _⟩
    · by_cases h3 : s = ⟨#[46, 46]⟩
      · have H : Hid (Nm.err s = 409) := Nm.err_no fun h => h.2.2.2.1 h3
        rw [H.out]
        subst h3
        go_enter Tryz.func150,Tryz.ntmps150
        go_wp2_with fail
        refine (fwithin_yes _ _ _ _ H1.out).mono ?_
        rintro e w' ⟨rfl,rfl⟩
        go_wp2
        go_ret
        exact ⟨rfl,Below.refl _ _⟩
      · have H2 : Hid (s ≠ ⟨#[46]⟩ ∧ s ≠ ⟨#[46, 46]⟩) := ⟨h2, h3⟩
        have e2:(s.toList == [46]) = false:=beq_eq_false_iff_ne.2 (toList_ne h2)
        have e3:(s.toList == [46,46]) = false:=beq_eq_false_iff_ne.2 (toList_ne h3)
        clear h1 h2 h3
        go_enter Tryz.func150,Tryz.ntmps150
        go_wp2_with fail
        refine (fwithin_yes _ _ _ _ H1.out).mono ?_
        rintro e w' ⟨rfl,hw⟩
        obtain rfl:w = w':=hw.symm
        go_wp2
        go_loopw [4] (fun _ wr=>∃ pos:Nat,pos<=s.size/\wr = w.iter s pos/\Nm.clean s pos) (fun _ wr=>s.size - wr.iterPos w.heap.size)
        case atStart=>exact ⟨0,Nat.zero_le _,rfl,Nm.clean_zero s⟩
        case round =>
          obtain ⟨pos,hps,rfl,hc⟩:=hrel
          have HC:Hid (Nm.clean s pos):=hc
          clear hc
          by_cases hp:pos < s.size
          · have hnext : ∀ ty, (Instr.next (.pointer (some ⟨w.heap.size, 0, none⟩)) true ty).run Tryz.prog (w.iter s pos) = _ := fun ty => run_next_any w s pos ty hp
            obtain ⟨hd1,hd2,-⟩:=Nm.decode_skip s pos hp
            obtain ⟨q1,q2⟩:=Nm.decode_bad s pos hp
            have HJ:Hid ((Utf8.decode s pos).1≠47->(Utf8.decode s pos).1≠0->Nm.clean s (pos + (Utf8.decode s pos).2)):=fun a b=>Nm.clean_jump hp HC.out a b
            have HB:Hid ((Utf8.decode s pos).1 = 47∨(Utf8.decode s pos).1 = 0->Nm.err s = 409):=fun a=>Nm.err_no (Nm.clean_bad hp (a.imp q1.1 q2.1))
            clear q1 q2
            generalize Utf8.decode s pos = d at *
            obtain ⟨r,k⟩:=d
            simp only at *
            by_cases r1:r = 47
            · subst r1
              have H:Hid (Nm.err s = 409):=HB.out (.inl rfl)
              go_wp2
              go_ret
              rw [H.out]
              exact ⟨rfl,below_iter s _⟩
            · by_cases r0 : r = 0
              · subst r0
                have H:Hid (Nm.err s = 409):=HB.out (.inr rfl)
                go_wp2
                go_ret
                rw [H.out]
                exact ⟨rfl,below_iter s _⟩
              · have t1 : ((r : Int) == 47) = false := beq_eq_false_iff_ne.2 (by omega)
                have t0:((r:Int) == 0) = false:=beq_eq_false_iff_ne.2 (by omega)
                have HK:Hid (Nm.clean s (pos + k)):=HJ.out r1 r0
                go_wp2
                go_roundw
                case rel=>exact ⟨pos + k,hd2,rfl,HK.out⟩
                case measure =>
                  simp only [World.iterPos_iter]
                  omega
          · have hnext : ∀ ty, (Instr.next (.pointer (some ⟨w.heap.size, 0, none⟩)) true ty).run Tryz.prog (w.iter s pos) = _ := fun ty => run_next_end w s pos ty hp
            have H:Hid (Nm.err s = 0):=Nm.err_ok ⟨by have:=H1.out.1;omega,by have:=H1.out.2;omega,H2.out.1,H2.out.2,by
              have:=HC.out
              rwa [show pos = s.size by omega] at this⟩
            go_wp2
            go_ret
            rw [H.out]
            exact ⟨rfl,below_iter s _⟩
  · have H : Hid (Nm.err s = 409) := Nm.err_no fun h => h1 ⟨by have := h.1; omega, by have := h.2.1; omega⟩
    have H1:Hid (¬ (1<=(s.size:Int)/\(s.size:Int)<=32)):=h1
    rw [H.out]
    clear h1
    go_enter Tryz.func150,Tryz.ntmps150
    go_wp2_with fail
    refine (fwithin_no _ _ _ _ H1.out).mono ?_
    rintro e w' ⟨rfl,rfl⟩
    go_wp2
    go_ret
    exact ⟨rfl,Below.refl _ _⟩
set_option maxHeartbeats 1000000 in
theorem rname_any (s : ByteArray) (w : World) (hm : s.size ≤ maxLen) : Calls Tryz.prog 143 #[.string s] w fun e w' => e = .returned (.int .i64 (Nm.err s)) ∧ w' = w := by
  unfold maxLen at hm
  by_cases h1:s.size < 1
  · have H : Hid (Nm.err s = 409) := Nm.err_no fun h => by have := h.1; omega
    rw [H.out]
    have h1':(s.size:Int) < 1:=by omega
    go_enter Tryz.func143,Tryz.ntmps143
    go_wp2
    go_ret
    exact ⟨rfl,rfl⟩
  by_cases h2:32 < s.size
  · have H : Hid (Nm.err s = 409) := Nm.err_no fun h => by have := h.2.1; omega
    rw [H.out]
    have h1':¬ (s.size:Int) < 1:=by omega
    have h2':(32:Int) < (s.size:Int):=by omega
    go_enter Tryz.func143,Tryz.ntmps143
    go_wp2
    go_ret
    exact ⟨rfl,rfl⟩
  by_cases h3:s = ⟨#[46]⟩
  · have H : Hid (Nm.err s = 409) := Nm.err_no fun h => h.2.2.1 h3
    rw [H.out]
    subst h3
    go_enter Tryz.func143,Tryz.ntmps143
    go_wp2
    go_ret
    exact ⟨rfl,rfl⟩
  by_cases h4:s = ⟨#[46,46]⟩
  · have H : Hid (Nm.err s = 409) := Nm.err_no fun h => h.2.2.2.1 h4
    rw [H.out]
    subst h4
    go_enter Tryz.func143,Tryz.ntmps143
    go_wp2
    go_ret
    exact ⟨rfl,rfl⟩
  have H2:Hid (1<=s.size/\s.size<=32/\s≠⟨#[46]⟩/\s≠⟨#[46,46]⟩):=⟨by omega,by omega,h3,h4⟩
  have e2:(s.toList == [46]) = false:=beq_eq_false_iff_ne.2 (toList_ne h3)
  have e3:(s.toList == [46,46]) = false:=beq_eq_false_iff_ne.2 (toList_ne h4)
  have g1:¬ (s.size:Int) < 1:=by omega
  have g2:¬ (32:Int) < (s.size:Int):=by omega
  clear h1 h2 h3 h4
  go_enter Tryz.func143,Tryz.ntmps143
  go_wp2
  go_loopw [3] (fun i wr=>∃ k:Nat,k<=s.size/\i = .int .i64 k/\wr = w/\Hid (Nm.clean s k)) (fun i _=>s.size - (intOf i).toNat)
  case atStart=>exact ⟨0,Nat.zero_le _,rfl,rfl,Nm.clean_zero s⟩
  case round =>
    obtain ⟨k,hk,rfl,rfl,HC⟩:=hrel
    by_cases hlt:k < s.size
    · have hlt' : (k : Int) < (s.size : Int) := by omega
      obtain ⟨c,hc⟩:∃ c,s[k]'hlt = c:=⟨_,rfl⟩
      by_cases c1:c.toNat = 47
      · have H : Hid (Nm.err s = 409) := Nm.err_no (Nm.clean_bad hlt (.inl (by rw [hc]; exact c1)))
        have c1':((c.toNat:Int) == 47) = true:=by simp [c1]
        go_wp2
        go_ret
        rw [H.out]
        exact ⟨rfl,rfl⟩
      · have c1' : ((c.toNat : Int) == 47) = false := beq_eq_false_iff_ne.2 (by omega)
        by_cases c0:c.toNat = 0
        · have H : Hid (Nm.err s = 409) := Nm.err_no (Nm.clean_bad hlt (.inr (by rw [hc]; exact c0)))
          have c0':((c.toNat:Int) == 0) = true:=by simp [c0]
          go_wp2
          go_ret
          rw [H.out]
          exact ⟨rfl,rfl⟩
        · have c0' : ((c.toNat : Int) == 0) = false := beq_eq_false_iff_ne.2 (by omega)
          have HC2:Hid (Nm.clean s (k + 1)):=Nm.clean_succ hlt HC.out (by rw [hc];exact c1) (by rw [hc];exact c0)
          go_wp2
          go_roundw
          case rel=>exact ⟨k + 1,by omega,by go_num,trivial,HC2⟩
          case measure=>simp [intOf];omega
    · have H : Hid (Nm.err s = 0) := Nm.err_ok ⟨H2.out.1, H2.out.2.1, H2.out.2.2.1, H2.out.2.2.2, by
        have:=HC.out
        rwa [show k = s.size by omega] at this⟩
      have hlt':¬ (k:Int) < (s.size:Int):=by omega
      go_wp2
      go_ret
      rw [H.out]
      exact ⟨rfl,rfl⟩
end Go.Proofs.YtggoccfddnpelaaGreatDoor.Ks.Rs
