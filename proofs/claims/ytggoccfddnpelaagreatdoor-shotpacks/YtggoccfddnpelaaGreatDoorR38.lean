/- ZRd, ZUs, ZUn, as one. -/
import Derived.Test.YtggoccfddnpelaaGreatDoorR37
namespace Go.Proofs.YtggoccfddnpelaaGreatDoor
open Go.ChangeShapes Go.WideShapes Go.ChangeAt Go.RowKit Go.Deep It
set_option maxRecDepth 100000
theorem Sh.stS_len (l:List Sh.F):∀ x:Sh.Sta,(l.foldl Sh.stS x).L.length<=x.L.length + l.length/\(l.foldl Sh.stS x).O.length<=x.O.length + l.length/\(l.foldl Sh.stS x).Z.length<=x.Z.length + l.length:=by
  induction l with
  | nil=>intro x;exact ⟨Nat.le_refl _,Nat.le_refl _,Nat.le_refl _⟩
  | cons f l ih =>
    intro x
    have h:=ih (Sh.stS x f)
    have h1:(Sh.stS x f).L.length<=x.L.length + 1/\(Sh.stS x f).O.length<=x.O.length + 1/\(Sh.stS x f).Z.length<=x.Z.length + 1:=by
      unfold Sh.stS
      repeat' split
      all_goals exact ⟨by simp,by simp,by simp⟩
    rw [List.foldl_cons,List.length_cons]
    omega
theorem at_ino {w:World} {B:Nat} {r:Rw} (h:w.heap[B]? = some (BI r.i (.slice r.rp r.rn r.rc) (.slice r.ep r.en r.ec))):AtW EI w (.slice (some ⟨B,0,none⟩) 1 1) [r]:=by
  refine .inr ⟨B,0,1,rfl,trivial,(Array.getElem?_eq_some_iff.1 h).1,by simp,by simp,by unfold maxLen;omega,fun j u hj=>?_⟩
  have c:=cell_at h j
  rw [Nat.zero_add,c]
  have e:EI.flat [r] = [.int .i64 r.i.gen,.int .i64 r.i.kind,.int .i64 r.i.links,.int .i64 r.i.size,.int .i64 r.i.stamp,.slice r.rp r.rn r.rc,.slice r.ep r.en r.ec,.int .i64 r.i.next]:=by simp [Enc.flat,EI]
  rw [e] at hj
  simpa using hj
theorem at_opn {w:World} {B:Nat} {r:Os.Opn} (h:w.heap[B]? = some (.cells #[.int .i64 r.1,.int .i64 r.2.1,.int .i64 r.2.2.1,.int .i64 r.2.2.2] 59)):AtW Os.EO w (.slice (some ⟨B,0,none⟩) 1 1) [r]:=by
  refine .inr ⟨B,0,1,rfl,trivial,(Array.getElem?_eq_some_iff.1 h).1,by simp,by simp,by unfold maxLen;omega,fun j u hj=>?_⟩
  have c:=cell_at h j
  rw [Nat.zero_add,c]
  have e:Os.EO.flat [r] = [.int .i64 r.1,.int .i64 r.2.1,.int .i64 r.2.2.1,.int .i64 r.2.2.2]:=by simp [Enc.flat,Os.EO]
  rw [e] at hj
  simpa using hj
theorem at_sea {w:World} {B:Nat} {r:Es.Sea} (h:w.heap[B]? = some (.cells #[.int .i64 r.1,.int .i64 r.2.1,.string r.2.2] 62)):AtW Es.ES w (.slice (some ⟨B,0,none⟩) 1 1) [r]:=by
  refine .inr ⟨B,0,1,rfl,trivial,(Array.getElem?_eq_some_iff.1 h).1,by simp,by simp,by unfold maxLen;omega,fun j u hj=>?_⟩
  have c:=cell_at h j
  rw [Nat.zero_add,c]
  have e:Es.ES.flat [r] = [.int .i64 r.1,.int .i64 r.2.1,.string r.2.2]:=by simp [Enc.flat,Es.ES]
  rw [e] at hj
  simpa using hj
set_option linter.unusedSimpArgs false in
set_option maxHeartbeats 8000000 in
theorem read_any (s : ByteArray) (w : World) (hs : s.size ≤ 1048576) :
    Calls Tryz.prog 26 #[.string s] w fun e w'=>∃ L vi vo vz,e = .returned (.agg #[vi,vo,vz,.int .i64 (Sh.rdS s).dn])/\pl L = (Sh.rdS s).L/\Row EI w' w.heap.size 43 vi L/\(∀ r∈L,Row ER w' w.heap.size 45 (.slice r.rp r.rn r.rc) r.i.runs/\Row EE w' w.heap.size 79 (.slice r.ep r.en r.ec) r.i.ents)/\Row Os.EO w' w.heap.size 59 vo (Sh.rdS s).O/\Row Es.ES w' w.heap.size 62 vz (Sh.rdS s).Z/\Below w.heap.size w w':=by
  obtain ⟨A2,hA2⟩:∃ n,n = w.heap.size:=⟨_,rfl⟩
  obtain ⟨W,hW⟩:∃ W,W = w.alloc BS0:=⟨_,rfl⟩
  have HT0:Hid (W.heap[A2]? = some BS0):=by show _ = _;rw [hW,hA2];exact heap_alloc_new _ _
  have HB0:Hid (Below w.heap.size w W):=by show Below _ _ _;rw [hW];exact (Below.refl _ _).alloc (Nat.le_refl _) _
  have HW:Hid (W = w.alloc BS0/\A2 = w.heap.size):=⟨hW,hA2⟩
  have HZ:Hid (s.size<=1048576):=hs
  clear hs hW hA2
  go_enter Tryz.func26,Tryz.ntmps26
  go_wp2_with fail
  rw [← HW.out.1,← HW.out.2]
  refine (Ks.unpack_any s _ HZ.out).mono ?_
  rintro e w2 ⟨r,rfl,hown,hb⟩
  have HT2:Hid (w2.heap[A2]? = some BS0):=(hb.block _ (Array.getElem?_eq_some_iff.1 HT0.out).1).trans HT0.out
  have HB2:Hid (Below w.heap.size w w2):=HB0.out.trans (hb.mono HB0.out.size)
  obtain ⟨l,hl⟩:∃ l,Ks.Pl.unpOut s.data.toList = l:=⟨_,rfl⟩
  have HL:Hid (Ks.Pl.unpOut s.data.toList = l):=hl
  have HLS:Hid (∀ f∈l,f.2.size<=1048576):=by
    intro f hf
    rw [← hl] at hf
    exact Nat.le_trans (Ks.Rs.Ak.parse_small _ _ _ f hf) (by decide)
  rw [hl] at hown
  obtain ⟨ao,cap,rfl,hm,hx⟩:=flds (Ks.FieldsAt.of_own hown)
  have hmm:l.length<=1048576:=by
    have:=Ks.Rs.Ak.parse_len s.data.toList.length 1 s.data.toList
    rw [← hl]
    have e:s.data.toList.length = s.size:=by simp
    unfold Ks.Pl.unpOut
    have:=HZ.out
    omega
  obtain ⟨n,hn⟩:∃ n,l.length = n:=⟨_,rfl⟩
  rw [hn] at hmm ⊢
  have HN:Hid (l.length = n):=hn
  have HX:Hid (∀ i x,l[i]? = some x->∃ b off,ao = some ⟨b,off,none⟩/\b < w2.heap.size/\w2.cell? ⟨b,off + i * 2,none⟩ = some (.int .i64 x.1)/\w2.cell? ⟨b,off + i * 2 + 1,none⟩ = some (.string x.2)):=hx
  clear hown hb hl hn hx hm HT0 HB0
  go_wp2_with fail
  obtain ⟨A,hA⟩:∃ n,n = w2.heap.size:=⟨_,rfl⟩
  obtain ⟨W3,hW3⟩:∃ V,V = w2.alloc BS0:=⟨_,rfl⟩
  have HR:Hid (RS A A Sh.st0 [] (.slice none 0 0) (.slice none 0 0) (.slice none 0 0) w2 W3):=by
    show RS _ _ _ _ _ _ _ _ _
    rw [hW3,hA]
    exact ⟨heap_alloc_new w2 _,rfl,Row.nil _ _ _ _,(fun r hr=>by cases hr),Row.nil _ _ _ _,Row.nil _ _ _ _,Nat.le_refl _,(Below.refl _ _).alloc (Nat.le_refl _) _,Nat.le_refl _⟩
  rw [← hW3,← hA]
  have HA:Hid (A = w2.heap.size):=hA
  clear hW3 hA
  go_loopw [16] (fun i wr=>∃ (k:Nat) (x:Sh.Sta) (L:List Rw) (vi vo vz:Value),k<=n/\i = .int .i64 k/\Hid (RS A A x L vi vo vz w2 wr)/\Hid (x = (l.take k).foldl Sh.stS Sh.st0)) (fun i _=>n - (intOf i).toNat)
  case atStart=>exact ⟨0,Sh.st0,[],_,_,_,Nat.zero_le _,rfl,HR,by rw [List.take_zero];rfl⟩
  case round =>
    obtain ⟨k,x,L,vi,vo,vz,hk,rfl,HI,HE⟩:=hrel
    by_cases hlt:k < n
    · obtain ⟨⟨tag, v⟩, hf⟩ : ∃ f, l[k]? = some f := ⟨_, List.getElem?_eq_getElem (by rw [HN.out]; exact hlt)⟩
      obtain ⟨b0,off,rfl,hb0,c0',c1'⟩:=HX.out k _ hf
      have hbA:b0 < A:=by rw [HA.out];exact hb0
      have c0:wr.cell? ⟨b0,off + k * 2,none⟩ = some (.int .i64 tag):=(HI.out.bl.cell (p:=⟨b0,off + k * 2,none⟩) hbA).trans c0'
      have c1:wr.cell? ⟨b0,off + k * 2 + 1,none⟩ = some (.string v):=(HI.out.bl.cell (p:=⟨b0,off + k * 2 + 1,none⟩) hbA).trans c1'
      have HV:Hid (v.size<=1048576):=HLS.out _ (List.mem_of_getElem? hf)
      have HV':Hid (v.size<=maxLen):=Nat.le_trans HV.out (by decide)
      have HNX:Hid ((l.take (k + 1)).foldl Sh.stS Sh.st0 = Sh.stS x (tag,v)):=by show _ = _;rw [Sh.fold_take _ _ _ hf,← HE.out]
      have HLN:Hid (x.L.length<=k/\x.O.length<=k/\x.Z.length<=k):=by
        show _/\_/\_
        have h1:=Sh.stS_len (l.take k) Sh.st0
        rw [← HE.out] at h1
        have h2:(l.take k).length<=k:=by rw [List.length_take];omega
        have h3:Sh.st0.L.length = 0/\Sh.st0.O.length = 0/\Sh.st0.Z.length = 0:=⟨rfl,rfl,rfl⟩
        omega
      obtain ⟨B,hB⟩:∃ n,n = wr.heap.size + 1:=⟨_,rfl⟩
      obtain ⟨W4,hW4⟩:∃ V,V = (wr.alloc (.cells #[.int .i64 tag,.string v] 53)).alloc (BT v):=⟨_,rfl⟩
      have HI4:Hid (RS A A x L vi vo vz w2 W4):=by show RS _ _ _ _ _ _ _ _ _;rw [hW4];exact (HI.out.up ((Below.refl _ _).alloc (Nat.le_refl _) _)).up ((Below.refl _ _).alloc (Nat.le_refl _) _)
      have HB4:Hid (W4.heap[B]? = some (BT v)):=by show _ = _;rw [hW4,hB];have h:=heap_alloc_new (wr.alloc (.cells #[.int .i64 tag,.string v] 53)) (BT v);simpa using h
      have hAB:A<=B:=by have:=HI.out.sz;omega
      have hlt':(k:Int) < (n:Int):=by omega
      clear c0' c1' hf hb0 HI
      by_cases e1:tag = 1
      · subst e1
        have t1:((1:Int) == 1) = true:=rfl
        go_wp2_with fail
        rw [← hW4,← hB]
        clear hW4 hB c0 c1
        refine (num_any' B 6 v _ HB4.out HV'.out).mono ?_
        rintro e w5 ⟨rfl,hx⟩
        have HI5:Hid (RS A A x L vi vo vz w2 w5):=HI4.out.tx HB4.out hAB hx
        have HI6:Hid (RS A A { x with dn:=Sh.nm 6 v } L vi vo vz w2 (w5.setCell ⟨A,3,none⟩ (.int .i64 (Sh.nm 6 v)))):=HI5.out.done _
        have f0:=fr_at HI5.out.box
        have q0:=cell_at HI5.out.box 3
        simp at q0
        clear hx HI4 HB4
        go_wp2
        go_roundw
        case rel=>exact ⟨k + 1,_,L,vi,vo,vz,by omega,by go_num,HI6,by show _ = _;rw [HNX.out];unfold Sh.stS;simp⟩
        case measure=>simp [intOf];omega
      · have t1 : (tag == 1) = false := by simp [e1]
        by_cases e2:tag = 2
        · subst e2
          have t2:((2:Int) == 2) = true:=rfl
          have f9:=fr_at HI4.out.box
          have q9:=cell_at HI4.out.box 0
          simp at q9
          go_wp2_with fail
          rw [← hW4,← hB]
          clear hW4 hB c0 c1 f9 q9
          refine wp_region_any (by kernel_rfl) ?_
          change wpAny _ _ _ _ _ _ _ (World.drew _)
          refine wpAny_take (i:=0) (v:=?vi1) rfl (by kernel_rfl) (by kernel_rfl) (by kernel_rfl) (fun _ _ _ h=>h) (Or.inl ⟨by rfl,?hi1⟩) ?ri1
          case hi1=>(intro w;go_simp;try with_reducible rfl)
          try simp only [Act.put,List.setIfInBounds_toArray,List.set_cons_zero,List.set_cons_succ]
          refine wpAny_take (i:=2) (v:=?vi2) rfl (by kernel_rfl) (by kernel_rfl) (by kernel_rfl) (fun _ _ _ h=>h) (Or.inl ⟨by rfl,?hi2⟩) ?ri2
          case hi2=>(intro w;go_simp;try with_reducible rfl)
          try simp only [Act.put,List.setIfInBounds_toArray,List.set_cons_zero,List.set_cons_succ]
          have HS:(fun V:World=>V.cell? ⟨A,0,none⟩ = some vi) W4.drew:=by have h:=cell_at HI4.out.drew.box 0;simpa using h
          refine Fst.any_of (late:=fun k=>[7].contains k) (S:=fun V:World=>V.cell? ⟨A,0,none⟩ = some vi) _ _ _ _ ?_
          refine Fst.take (ls:=[7]) (i:=1) (v:=?vi3) rfl (by kernel_rfl) (by kernel_rfl) (by kernel_rfl) (by kernel_rfl) (by kernel_rfl) (fun _ _ _ h=>h) (Or.inl ⟨by rfl,?hi3⟩) HS ?ri3
          case hi3=>(intro V s5;go_simp;try with_reducible rfl)
          try simp only [Act.put,List.setIfInBounds_toArray,List.set_cons_zero,List.set_cons_succ]
          clear HS
          refine Fst.one (late:=fun k=>[7].contains k) (i:=3) (by kernel_rfl) rfl (fun K hK=>?_)
          go_simp
          refine (vinode_any B v W4.drew HB4.out HV.out).mono ?_
          rintro e w5 ⟨rv,ev,rfl,hr5,he5,t5,hx⟩
          obtain ⟨ra,rn,rc,rfl⟩:∃ a m c,rv = .slice a m c:=by rcases hr5 with ⟨rfl,-⟩ | ⟨g,cap,cur,rfl,-⟩ <;> exact ⟨_,_,_,rfl⟩
          obtain ⟨ea,en,ec,rfl⟩:∃ a m c,ev = .slice a m c:=by rcases he5 with ⟨rfl,-⟩ | ⟨g,cap,cur,rfl,-⟩ <;> exact ⟨_,_,_,rfl⟩
          have HR5:Hid (Row ER w5 A 45 (.slice ra rn rc) (Sh.rdI v).runs):=hr5.low HI4.out.sz
          have HE5:Hid (Row EE w5 A 79 (.slice ea en ec) (Sh.rdI v).ents):=he5.low HI4.out.sz
          clear hr5 he5
          have HI5:Hid (RS A A x L vi vo vz w2 w5):=HI4.out.drew.tx HB4.out hAB hx
          clear hx HI4 HB4
          (try go_wp2_with fail)
          refine hK _ _ (by have h:=cell_at HI5.out.box 0;simpa using h) ?_
          clear hK K
          try simp only [Act.put,List.setIfInBounds_toArray,List.set_cons_zero,List.set_cons_succ]
          refine Fst.one (late:=fun k=>[7].contains k) (i:=4) (by kernel_rfl) rfl (fun K hK=>?_)
          go_simp
          (try go_wp2_with fail)
          obtain ⟨W6,hW6⟩:∃ V,V = w5.alloc (.cells #[.int .i64 (Sh.rdI v).gen,.int .i64 (Sh.rdI v).kind,.int .i64 (Sh.rdI v).links,.int .i64 (Sh.rdI v).size,.int .i64 (Sh.rdI v).stamp,.slice ra rn rc,.slice ea en ec,.int .i64 (Sh.rdI v).next] 43):=⟨_,rfl⟩
          have HI6:Hid (RS A A x L vi vo vz w2 W6):=by show RS _ _ _ _ _ _ _ _ _;rw [hW6];exact HI5.out.up ((Below.refl _ _).alloc (Nat.le_refl _) _)
          have HX6:Hid (W6.heap[w5.heap.size]? = some (.cells #[.int .i64 (Sh.rdI v).gen,.int .i64 (Sh.rdI v).kind,.int .i64 (Sh.rdI v).links,.int .i64 (Sh.rdI v).size,.int .i64 (Sh.rdI v).stamp,.slice ra rn rc,.slice ea en ec,.int .i64 (Sh.rdI v).next] 43)):=by show _ = _;rw [hW6];exact heap_alloc_new _ _
          have HR6:Hid (Row ER W6 A 45 (.slice ra rn rc) (Sh.rdI v).runs):=by show Row _ _ _ _ _ _;rw [hW6];exact HR5.out.up ((Below.refl _ _).alloc (Nat.le_refl _) _)
          have HE6:Hid (Row EE W6 A 79 (.slice ea en ec) (Sh.rdI v).ents):=by show Row _ _ _ _ _ _;rw [hW6];exact HE5.out.up ((Below.refl _ _).alloc (Nat.le_refl _) _)
          have HLL:Hid (L.length<=k):=by
            show L.length<=k
            have h:=HLN.out.1
            rw [← HI6.out.eq] at h
            simpa [pl] using h
          rw [← hW6]
          refine hK _ _ (by have h:=cell_at HI6.out.box 0;simpa using h) ?_
          clear hK K hW6
          try simp only [Act.put,List.setIfInBounds_toArray,List.set_cons_zero,List.set_cons_succ]
          refine Fst.one (late:=fun k=>[7].contains k) (i:=5) (by kernel_rfl) rfl (fun K hK=>?_)
          obtain ⟨i0,hi,hz0,hz1,hz2⟩:=info_parts infoI
          refine step_row rfl _ _ _ rfl EI (fun _=>True) A 43 i0 (.agg #[.int .i64 0,.int .i64 0,.int .i64 0,.int .i64 0,.int .i64 0,.slice none 0 0,.slice none 0 0,.int .i64 0]) 96 Tryz.underlying22 hi hz0 hz1 hz2 rfl vi L rfl HI6.out.rowI _ [⟨Sh.rdI v,ra,rn,rc,ea,en,ec⟩] rfl (at_ino (r:=⟨Sh.rdI v,ra,rn,rc,ea,en,ec⟩) HX6.out) (by have:=HLL.out;unfold maxLen;simp;omega) (by have:=HLL.out;simp;omega) HI6.out.sz ?_
          intro v9 w9 g1 g2 _
          obtain ⟨a9,m9,c9,rfl⟩:∃ a m c,v9 = .slice a m c:=by rcases g1 with ⟨rfl,-⟩ | ⟨g,cap,cur,rfl,-⟩ <;> exact ⟨_,_,_,rfl⟩
          have HI7:=HI6.out.ino (r:=⟨Sh.rdI v,ra,rn,rc,ea,en,ec⟩) g1 g2 HR6.out HE6.out
          have HI8:Hid (w9.heap[A]? = some (BSt vi vo vz x.dn)):=HI7.2
          have HI9:Hid (RS A A { x with L:=x.L ++ [Sh.rdI v] } (L ++ [⟨Sh.rdI v,ra,rn,rc,ea,en,ec⟩]) (.slice a9 m9 c9) vo vz w2 (w9.setCell ⟨A,0,none⟩ (.slice a9 m9 c9))):=HI7.1
          clear HI7
          have HS:(fun V:World=>V.cell? ⟨A,0,none⟩ = some vi) w9:=by have h:=cell_at HI8.out 0;simpa using h
          refine hK _ _ HS ?_
          clear hK K HI6 HX6 HI5
          try simp only [Act.put,List.setIfInBounds_toArray,List.set_cons_zero,List.set_cons_succ]
          refine Fst.take (ls:=[7]) (i:=6) (v:=?vi6) rfl (by kernel_rfl) (by kernel_rfl) (by kernel_rfl) (by kernel_rfl) (by kernel_rfl) (fun _ _ _ h=>h) (Or.inl ⟨by rfl,?hi6⟩) HS ?ri6
          case hi6=>(intro V s5;go_simp;try with_reducible rfl)
          try simp only [Act.put,List.setIfInBounds_toArray,List.set_cons_zero,List.set_cons_succ]
          refine Fst.rest (by kernel_rfl) ?_
          have f8:=fr_at HI8.out
          have q8:=cell_at HI8.out 0
          simp at q8
          clear HS HI8
          refine wpAny_ready (rs:=[7]) (by kernel_rfl) (by simp) ?_
          refine AllReady.cons rfl (fun K hK=>?_) AllReady.nil
          go_simp
          (try go_wp2_with fail)
          first | (refine hK _ _ ?_;clear hK K) | skip
          try simp only [Act.put,List.setIfInBounds_toArray,List.set_cons_zero,List.set_cons_succ]
          refine wpAny_done (by kernel_rfl) ?_ _
          clear q8 f8
          go_wp2
          go_roundw
          case rel=>exact ⟨k + 1,_,L ++ [⟨Sh.rdI v,ra,rn,rc,ea,en,ec⟩],.slice a9 m9 c9,vo,vz,by omega,by go_num,HI9,by show _ = _;rw [HNX.out];unfold Sh.stS;simp⟩
          case measure=>simp [intOf];omega
        · have t2 : (tag == 2) = false := by simp [e2]
          by_cases e3:tag = 3
          · subst e3
            have t3:((3:Int) == 3) = true:=rfl
            have f9:=fr_at HI4.out.box
            have q9:=cell_at HI4.out.box 1
            simp at q9
            go_wp2_with fail
            rw [← hW4,← hB]
            clear hW4 hB c0 c1 f9 q9
            refine wp_region_any (by kernel_rfl) ?_
            change wpAny _ _ _ _ _ _ _ (World.drew _)
            refine wpAny_take (i:=0) (v:=?vo1) rfl (by kernel_rfl) (by kernel_rfl) (by kernel_rfl) (fun _ _ _ h=>h) (Or.inl ⟨by rfl,?ho1⟩) ?ro1
            case ho1=>(intro w;go_simp;try with_reducible rfl)
            try simp only [Act.put,List.setIfInBounds_toArray,List.set_cons_zero,List.set_cons_succ]
            refine wpAny_take (i:=2) (v:=?vo2) rfl (by kernel_rfl) (by kernel_rfl) (by kernel_rfl) (fun _ _ _ h=>h) (Or.inl ⟨by rfl,?ho2⟩) ?ro2
            case ho2=>(intro w;go_simp;try with_reducible rfl)
            try simp only [Act.put,List.setIfInBounds_toArray,List.set_cons_zero,List.set_cons_succ]
            have HS:(fun V:World=>V.cell? ⟨A,1,none⟩ = some vo) W4.drew:=by have h:=cell_at HI4.out.drew.box 1;simpa using h
            refine Fst.any_of (late:=fun k=>[7].contains k) (S:=fun V:World=>V.cell? ⟨A,1,none⟩ = some vo) _ _ _ _ ?_
            refine Fst.take (ls:=[7]) (i:=1) (v:=?vo3) rfl (by kernel_rfl) (by kernel_rfl) (by kernel_rfl) (by kernel_rfl) (by kernel_rfl) (fun _ _ _ h=>h) (Or.inl ⟨by rfl,?ho3⟩) HS ?ro3
            case ho3=>(intro V s5;go_simp;try with_reducible rfl)
            try simp only [Act.put,List.setIfInBounds_toArray,List.set_cons_zero,List.set_cons_succ]
            clear HS
            refine Fst.one (late:=fun k=>[7].contains k) (i:=3) (by kernel_rfl) rfl (fun K hK=>?_)
            go_simp
            refine (vopen_any B v W4.drew HB4.out HV'.out).mono ?_
            rintro e w5 ⟨rfl,t5,hx⟩
            have HI5:Hid (RS A A x L vi vo vz w2 w5):=HI4.out.drew.tx HB4.out hAB hx
            clear hx HI4 HB4
            (try go_wp2_with fail)
            refine hK _ _ (by have h:=cell_at HI5.out.box 1;simpa using h) ?_
            clear hK K
            try simp only [Act.put,List.setIfInBounds_toArray,List.set_cons_zero,List.set_cons_succ]
            refine Fst.one (late:=fun k=>[7].contains k) (i:=4) (by kernel_rfl) rfl (fun K hK=>?_)
            go_simp
            (try go_wp2_with fail)
            obtain ⟨W6,hW6⟩:∃ V,V = w5.alloc (.cells #[.int .i64 (Sh.rdO v).1,.int .i64 (Sh.rdO v).2.1,.int .i64 (Sh.rdO v).2.2.1,.int .i64 (Sh.rdO v).2.2.2] 59):=⟨_,rfl⟩
            have HI6:Hid (RS A A x L vi vo vz w2 W6):=by show RS _ _ _ _ _ _ _ _ _;rw [hW6];exact HI5.out.up ((Below.refl _ _).alloc (Nat.le_refl _) _)
            have HX6:Hid (W6.heap[w5.heap.size]? = some (.cells #[.int .i64 (Sh.rdO v).1,.int .i64 (Sh.rdO v).2.1,.int .i64 (Sh.rdO v).2.2.1,.int .i64 (Sh.rdO v).2.2.2] 59)):=by show _ = _;rw [hW6];exact heap_alloc_new _ _
            rw [← hW6]
            refine hK _ _ (by have h:=cell_at HI6.out.box 1;simpa using h) ?_
            clear hK K hW6
            try simp only [Act.put,List.setIfInBounds_toArray,List.set_cons_zero,List.set_cons_succ]
            refine Fst.one (late:=fun k=>[7].contains k) (i:=5) (by kernel_rfl) rfl (fun K hK=>?_)
            obtain ⟨i0,hi,hz0,hz1,hz2⟩:=info_parts Os.infoO
            refine step_row rfl _ _ _ rfl Os.EO (fun _=>True) A 59 i0 (.agg #[.int .i64 0,.int .i64 0,.int .i64 0,.int .i64 0]) 32 Tryz.underlying23 hi hz0 hz1 hz2 rfl vo x.O rfl HI6.out.rowO _ [Sh.rdO v] rfl (at_opn HX6.out) (by have:=HLN.out.2.1;unfold maxLen;simp;omega) (by have:=HLN.out.2.1;simp;omega) HI6.out.sz ?_
            intro v9 w9 g1 g2 _
            obtain ⟨a9,m9,c9,rfl⟩:∃ a m c,v9 = .slice a m c:=by rcases g1 with ⟨rfl,-⟩ | ⟨g,cap,cur,rfl,-⟩ <;> exact ⟨_,_,_,rfl⟩
            have HI7:=HI6.out.opn g1 g2
            have HI8:Hid (w9.heap[A]? = some (BSt vi vo vz x.dn)):=HI7.2
            have HI9:Hid (RS A A { x with O:=x.O ++ [Sh.rdO v] } L vi (.slice a9 m9 c9) vz w2 (w9.setCell ⟨A,1,none⟩ (.slice a9 m9 c9))):=HI7.1
            clear HI7
            have HS:(fun V:World=>V.cell? ⟨A,1,none⟩ = some vo) w9:=by have h:=cell_at HI8.out 1;simpa using h
            refine hK _ _ HS ?_
            clear hK K HI6 HX6 HI5
            try simp only [Act.put,List.setIfInBounds_toArray,List.set_cons_zero,List.set_cons_succ]
            refine Fst.take (ls:=[7]) (i:=6) (v:=?vo6) rfl (by kernel_rfl) (by kernel_rfl) (by kernel_rfl) (by kernel_rfl) (by kernel_rfl) (fun _ _ _ h=>h) (Or.inl ⟨by rfl,?ho6⟩) HS ?ro6
            case ho6=>(intro V s5;go_simp;try with_reducible rfl)
            try simp only [Act.put,List.setIfInBounds_toArray,List.set_cons_zero,List.set_cons_succ]
            refine Fst.rest (by kernel_rfl) ?_
            have f8:=fr_at HI8.out
            have q8:=cell_at HI8.out 1
            simp at q8
            clear HS HI8
            refine wpAny_ready (rs:=[7]) (by kernel_rfl) (by simp) ?_
            refine AllReady.cons rfl (fun K hK=>?_) AllReady.nil
            go_simp
            (try go_wp2_with fail)
            first | (refine hK _ _ ?_;clear hK K) | skip
            try simp only [Act.put,List.setIfInBounds_toArray,List.set_cons_zero,List.set_cons_succ]
            refine wpAny_done (by kernel_rfl) ?_ _
            clear q8 f8
            go_wp2
            go_roundw
            case rel=>exact ⟨k + 1,_,L,vi,.slice a9 m9 c9,vz,by omega,by go_num,HI9,by show _ = _;rw [HNX.out];unfold Sh.stS;simp⟩
            case measure=>simp [intOf];omega
          · have t3 : (tag == 3) = false := by simp [e3]
            by_cases e4:tag = 4
            · subst e4
              have t4:((4:Int) == 4) = true:=rfl
              have f9:=fr_at HI4.out.box
              have q9:=cell_at HI4.out.box 2
              simp at q9
              go_wp2_with fail
              rw [← hW4,← hB]
              clear hW4 hB c0 c1 f9 q9
              refine wp_region_any (by kernel_rfl) ?_
              change wpAny _ _ _ _ _ _ _ (World.drew _)
              refine wpAny_take (i:=0) (v:=?vz1) rfl (by kernel_rfl) (by kernel_rfl) (by kernel_rfl) (fun _ _ _ h=>h) (Or.inl ⟨by rfl,?hz1⟩) ?rz1
              case hz1=>(intro w;go_simp;try with_reducible rfl)
              try simp only [Act.put,List.setIfInBounds_toArray,List.set_cons_zero,List.set_cons_succ]
              refine wpAny_take (i:=2) (v:=?vz2) rfl (by kernel_rfl) (by kernel_rfl) (by kernel_rfl) (fun _ _ _ h=>h) (Or.inl ⟨by rfl,?hz2⟩) ?rz2
              case hz2=>(intro w;go_simp;try with_reducible rfl)
              try simp only [Act.put,List.setIfInBounds_toArray,List.set_cons_zero,List.set_cons_succ]
              have HS:(fun V:World=>V.cell? ⟨A,2,none⟩ = some vz) W4.drew:=by have h:=cell_at HI4.out.drew.box 2;simpa using h
              refine Fst.any_of (late:=fun k=>[7].contains k) (S:=fun V:World=>V.cell? ⟨A,2,none⟩ = some vz) _ _ _ _ ?_
              refine Fst.take (ls:=[7]) (i:=1) (v:=?vz3) rfl (by kernel_rfl) (by kernel_rfl) (by kernel_rfl) (by kernel_rfl) (by kernel_rfl) (fun _ _ _ h=>h) (Or.inl ⟨by rfl,?hz3⟩) HS ?rz3
              case hz3=>(intro V s5;go_simp;try with_reducible rfl)
              try simp only [Act.put,List.setIfInBounds_toArray,List.set_cons_zero,List.set_cons_succ]
              clear HS
              refine Fst.one (late:=fun k=>[7].contains k) (i:=3) (by kernel_rfl) rfl (fun K hK=>?_)
              go_simp
              refine (vseat_any B v W4.drew HB4.out HV'.out).mono ?_
              rintro e w5 ⟨rfl,t5,hx⟩
              have HI5:Hid (RS A A x L vi vo vz w2 w5):=HI4.out.drew.tx HB4.out hAB hx
              clear hx HI4 HB4
              (try go_wp2_with fail)
              refine hK _ _ (by have h:=cell_at HI5.out.box 2;simpa using h) ?_
              clear hK K
              try simp only [Act.put,List.setIfInBounds_toArray,List.set_cons_zero,List.set_cons_succ]
              refine Fst.one (late:=fun k=>[7].contains k) (i:=4) (by kernel_rfl) rfl (fun K hK=>?_)
              go_simp
              (try go_wp2_with fail)
              obtain ⟨W6,hW6⟩:∃ V,V = w5.alloc (.cells #[.int .i64 (Sh.rdZ v).1,.int .i64 (Sh.rdZ v).2.1,.string (Sh.rdZ v).2.2] 62):=⟨_,rfl⟩
              have HI6:Hid (RS A A x L vi vo vz w2 W6):=by show RS _ _ _ _ _ _ _ _ _;rw [hW6];exact HI5.out.up ((Below.refl _ _).alloc (Nat.le_refl _) _)
              have HX6:Hid (W6.heap[w5.heap.size]? = some (.cells #[.int .i64 (Sh.rdZ v).1,.int .i64 (Sh.rdZ v).2.1,.string (Sh.rdZ v).2.2] 62)):=by show _ = _;rw [hW6];exact heap_alloc_new _ _
              rw [← hW6]
              refine hK _ _ (by have h:=cell_at HI6.out.box 2;simpa using h) ?_
              clear hK K hW6
              try simp only [Act.put,List.setIfInBounds_toArray,List.set_cons_zero,List.set_cons_succ]
              refine Fst.one (late:=fun k=>[7].contains k) (i:=5) (by kernel_rfl) rfl (fun K hK=>?_)
              obtain ⟨i0,hi,hz0,hz1,hz2⟩:=info_parts Es.infoS
              refine step_row rfl _ _ _ rfl Es.ES (fun _=>True) A 62 i0 (.agg #[.int .i64 0,.int .i64 0,.string ⟨#[]⟩]) 32 Tryz.underlying24 hi hz0 hz1 hz2 rfl vz x.Z rfl HI6.out.rowZ _ [Sh.rdZ v] rfl (at_sea HX6.out) (by have:=HLN.out.2.2;unfold maxLen;simp;omega) (by have:=HLN.out.2.2;simp;omega) HI6.out.sz ?_
              intro v9 w9 g1 g2 _
              obtain ⟨a9,m9,c9,rfl⟩:∃ a m c,v9 = .slice a m c:=by rcases g1 with ⟨rfl,-⟩ | ⟨g,cap,cur,rfl,-⟩ <;> exact ⟨_,_,_,rfl⟩
              have HI7:=HI6.out.sea g1 g2
              have HI8:Hid (w9.heap[A]? = some (BSt vi vo vz x.dn)):=HI7.2
              have HI9:Hid (RS A A { x with Z:=x.Z ++ [Sh.rdZ v] } L vi vo (.slice a9 m9 c9) w2 (w9.setCell ⟨A,2,none⟩ (.slice a9 m9 c9))):=HI7.1
              clear HI7
              have HS:(fun V:World=>V.cell? ⟨A,2,none⟩ = some vz) w9:=by have h:=cell_at HI8.out 2;simpa using h
              refine hK _ _ HS ?_
              clear hK K HI6 HX6 HI5
              try simp only [Act.put,List.setIfInBounds_toArray,List.set_cons_zero,List.set_cons_succ]
              refine Fst.take (ls:=[7]) (i:=6) (v:=?vz6) rfl (by kernel_rfl) (by kernel_rfl) (by kernel_rfl) (by kernel_rfl) (by kernel_rfl) (fun _ _ _ h=>h) (Or.inl ⟨by rfl,?hz6⟩) HS ?rz6
              case hz6=>(intro V s5;go_simp;try with_reducible rfl)
              try simp only [Act.put,List.setIfInBounds_toArray,List.set_cons_zero,List.set_cons_succ]
              refine Fst.rest (by kernel_rfl) ?_
              have f8:=fr_at HI8.out
              have q8:=cell_at HI8.out 2
              simp at q8
              clear HS HI8
              refine wpAny_ready (rs:=[7]) (by kernel_rfl) (by simp) ?_
              refine AllReady.cons rfl (fun K hK=>?_) AllReady.nil
              go_simp
              (try go_wp2_with fail)
              first | (refine hK _ _ ?_;clear hK K) | skip
              try simp only [Act.put,List.setIfInBounds_toArray,List.set_cons_zero,List.set_cons_succ]
              refine wpAny_done (by kernel_rfl) ?_ _
              clear q8 f8
              go_wp2
              go_roundw
              case rel=>exact ⟨k + 1,_,L,vi,vo,.slice a9 m9 c9,by omega,by go_num,HI9,by show _ = _;rw [HNX.out];unfold Sh.stS;simp⟩
              case measure=>simp [intOf];omega
            · have t4 : (tag == 4) = false := by simp [e4]
              have HNN:Hid (Sh.stS x (tag,v) = x):=by show Sh.stS x (tag,v) = x;unfold Sh.stS;rw [if_neg e1,if_neg e2,if_neg e3,if_neg e4]
              have HE2:Hid (x = (l.take (k + 1)).foldl Sh.stS Sh.st0):=by show _ = _;rw [HNX.out,HNN.out]
              clear e1 e2 e3 e4 HNX HNN HE
              go_wp2
              go_roundw
              case rel=>exact ⟨k + 1,x,L,vi,vo,vz,by omega,by go_num,by rw [← hW4];exact HI4.out,HE2⟩
              case measure=>simp [intOf];omega
    · obtain rfl : k = n := by omega
      have HXX:Hid (Sh.rdS s = x):=by
        show _ = _
        unfold Sh.rdS
        rw [HL.out,HE.out,List.take_of_length_le (by rw [HN.out];exact Nat.le_refl _)]
      obtain ⟨ia,im,ic,rfl⟩:∃ a m c,vi = .slice a m c:=by rcases HI.out.rowI with ⟨rfl,-⟩ | ⟨g,cap,cur,rfl,-⟩ <;> exact ⟨_,_,_,rfl⟩
      obtain ⟨oa,om,oc,rfl⟩:∃ a m c,vo = .slice a m c:=by rcases HI.out.rowO with ⟨rfl,-⟩ | ⟨g,cap,cur,rfl,-⟩ <;> exact ⟨_,_,_,rfl⟩
      obtain ⟨za,zm,zc,rfl⟩:∃ a m c,vz = .slice a m c:=by rcases HI.out.rowZ with ⟨rfl,-⟩ | ⟨g,cap,cur,rfl,-⟩ <;> exact ⟨_,_,_,rfl⟩
      have HAA:Hid (A2 < A):=by show A2 < A;rw [HA.out];exact (Array.getElem?_eq_some_iff.1 HT2.out).1
      have HAw:Hid (w.heap.size<=A2):=by show w.heap.size<=A2;rw [HW.out.2];exact Nat.le_refl _
      have HA2w:Hid (wr.heap[A2]? = some BS0):=(HI.out.bl.block _ HAA.out).trans HT2.out
      have b0:=cell_at HI.out.box 0
      have b1:=cell_at HI.out.box 1
      have b2:=cell_at HI.out.box 2
      have b3:=cell_at HI.out.box 3
      simp at b0 b1 b2 b3
      have f0:=fr_at HA2w.out
      have c0:=cell_at HA2w.out 0
      have c1:=cell_at HA2w.out 1
      have c2:=cell_at HA2w.out 2
      have c3:=cell_at HA2w.out 3
      simp at c0 c1 c2 c3
      have HF:Hid (((((wr.setCell ⟨A2,0,none⟩ (.slice ia im ic)).setCell ⟨A2,1,none⟩ (.slice oa om oc)).setCell ⟨A2,2,none⟩ (.slice za zm zc)).setCell ⟨A2,3,none⟩ (.int .i64 x.dn)).heap[A2]? = some (BSt (.slice ia im ic) (.slice oa om oc) (.slice za zm zc) x.dn)):=by show _ = _;have h:=(set_at (set_at (set_at (set_at HA2w.out 0 (.slice ia im ic)) 1 (.slice oa om oc)) 2 (.slice za zm zc)) 3 (.int .i64 x.dn));simpa using h
      have hg:wr.grownBy ((((wr.setCell ⟨A2,0,none⟩ (.slice ia im ic)).setCell ⟨A2,1,none⟩ (.slice oa om oc)).setCell ⟨A2,2,none⟩ (.slice za zm zc)).setCell ⟨A2,3,none⟩ (.int .i64 x.dn)) (some A2):=grown_trans (grown_trans (grown_trans (grs _ _ _ _) (grs _ _ _ _)) (grs _ _ _ _)) (grs _ _ _ _)
      have HRI:Hid (Row EI ((((wr.setCell ⟨A2,0,none⟩ (.slice ia im ic)).setCell ⟨A2,1,none⟩ (.slice oa om oc)).setCell ⟨A2,2,none⟩ (.slice za zm zc)).setCell ⟨A2,3,none⟩ (.int .i64 x.dn)) w.heap.size 43 (.slice ia im ic) L):=(HI.out.rowI.kept hg (.inr fun e=>by have:=(HI.out.rowI.lt _ e).1;have:=HAA.out;omega)).low (by have:=HAA.out;have:=HAw.out;omega)
      have HRG:Hid (∀ r∈L,Row ER ((((wr.setCell ⟨A2,0,none⟩ (.slice ia im ic)).setCell ⟨A2,1,none⟩ (.slice oa om oc)).setCell ⟨A2,2,none⟩ (.slice za zm zc)).setCell ⟨A2,3,none⟩ (.int .i64 x.dn)) w.heap.size 45 (.slice r.rp r.rn r.rc) r.i.runs/\Row EE ((((wr.setCell ⟨A2,0,none⟩ (.slice ia im ic)).setCell ⟨A2,1,none⟩ (.slice oa om oc)).setCell ⟨A2,2,none⟩ (.slice za zm zc)).setCell ⟨A2,3,none⟩ (.int .i64 x.dn)) w.heap.size 79 (.slice r.ep r.en r.ec) r.i.ents):=fun r hr=>⟨((HI.out.good r hr).1.kept hg (.inr fun e=>by have:=((HI.out.good r hr).1.lt _ e).1;have:=HAA.out;omega)).low (by have:=HAA.out;have:=HAw.out;omega),((HI.out.good r hr).2.kept hg (.inr fun e=>by have:=((HI.out.good r hr).2.lt _ e).1;have:=HAA.out;omega)).low (by have:=HAA.out;have:=HAw.out;omega)⟩
      have HRO:Hid (Row Os.EO ((((wr.setCell ⟨A2,0,none⟩ (.slice ia im ic)).setCell ⟨A2,1,none⟩ (.slice oa om oc)).setCell ⟨A2,2,none⟩ (.slice za zm zc)).setCell ⟨A2,3,none⟩ (.int .i64 x.dn)) w.heap.size 59 (.slice oa om oc) x.O):=(HI.out.rowO.kept hg (.inr fun e=>by have:=(HI.out.rowO.lt _ e).1;have:=HAA.out;omega)).low (by have:=HAA.out;have:=HAw.out;omega)
      have HRZ:Hid (Row Es.ES ((((wr.setCell ⟨A2,0,none⟩ (.slice ia im ic)).setCell ⟨A2,1,none⟩ (.slice oa om oc)).setCell ⟨A2,2,none⟩ (.slice za zm zc)).setCell ⟨A2,3,none⟩ (.int .i64 x.dn)) w.heap.size 62 (.slice za zm zc) x.Z):=(HI.out.rowZ.kept hg (.inr fun e=>by have:=(HI.out.rowZ.lt _ e).1;have:=HAA.out;omega)).low (by have:=HAA.out;have:=HAw.out;omega)
      have HEQ:Hid (pl L = x.L):=HI.out.eq
      have HBW:Hid (Below w.heap.size w wr):=HB2.out.trans (HI.out.bl.mono (by rw [HA.out];exact HB2.out.size))
      have HBF:Hid (Below w.heap.size w ((((wr.setCell ⟨A2,0,none⟩ (.slice ia im ic)).setCell ⟨A2,1,none⟩ (.slice oa om oc)).setCell ⟨A2,2,none⟩ (.slice za zm zc)).setCell ⟨A2,3,none⟩ (.int .i64 x.dn))):=HBW.out.grown hg HBW.out.size (fun j hj=>by cases hj;exact HAw.out)
      clear hg
      go_wp2
      generalize ((((wr.setCell ⟨A2,0,none⟩ (.slice ia im ic)).setCell ⟨A2,1,none⟩ (.slice oa om oc)).setCell ⟨A2,2,none⟩ (.slice za zm zc)).setCell ⟨A2,3,none⟩ (.int .i64 x.dn)) = WF at HF HRI HRG HRO HRZ HBF ⊢
      have d0:=cell_at HF.out 0
      have d1:=cell_at HF.out 1
      have d2:=cell_at HF.out 2
      have d3:=cell_at HF.out 3
      simp at d0 d1 d2 d3
      refine bodyPost_ret (v:=.agg #[.slice ia im ic,.slice oa om oc,.slice za zm zc,.int .i64 x.dn]) ?_ rfl ?_
      · rw [results_cell1 rfl]
        go_simp
      · rw [HXX.out]
        exact ⟨L,_,_,_,rfl,HEQ.out,HRI.out,HRG.out,HRO.out,HRZ.out,HBF.out⟩
structure US (n0:Nat) (x:Sh.Sta) (L:List Rw) (vi vo vz:Value) (w:World):Prop where
  eq:pl L = x.L
  rowI:Row EI w n0 43 vi L
  good:∀ r∈L,Row ER w n0 45 (.slice r.rp r.rn r.rc) r.i.runs/\Row EE w n0 79 (.slice r.ep r.en r.ec) r.i.ents
  rowO:Row Os.EO w n0 59 vo x.O
  rowZ:Row Es.ES w n0 62 vz x.Z
section
variable {n0 n1:Nat} {x:Sh.Sta} {L:List Rw} {vi vo vz:Value} {w w':World}
theorem US.kept {A:Nat} (h:US n1 x L vi vo vz w) (hg:w.grownBy w' (some A)) (hA:A < n1):US n1 x L vi vo vz w':=by
  have off:∀ {α:Type} {E:Enc α} {T:TypeId} {v:Value} {ls:List α},Row E w n1 T v ls->v.ownBlock = none∨v.ownBlock≠some A:=fun q=>.inr fun e=>by have h9:=(q.lt _ e).1;omega
  exact ⟨h.eq,h.rowI.kept hg (off h.rowI),fun r hr=>⟨(h.good r hr).1.kept hg (off (h.good r hr).1),(h.good r hr).2.kept hg (off (h.good r hr).2)⟩,h.rowO.kept hg (off h.rowO),h.rowZ.kept hg (off h.rowZ)⟩
theorem US.low (h:US n1 x L vi vo vz w) (hn:n0<=n1):US n0 x L vi vo vz w:=⟨h.eq,h.rowI.low hn,fun r hr=>⟨(h.good r hr).1.low hn,(h.good r hr).2.low hn⟩,h.rowO.low hn,h.rowZ.low hn⟩
theorem US.up (h:US n0 x L vi vo vz w) (hb:Below w.heap.size w w'):US n0 x L vi vo vz w':=⟨h.eq,h.rowI.up hb,fun r hr=>⟨(h.good r hr).1.up hb,(h.good r hr).2.up hb⟩,h.rowO.up hb,h.rowZ.up hb⟩
theorem US.none (n0:Nat) (w:World):US n0 Sh.st0 [] (.slice none 0 0) (.slice none 0 0) (.slice none 0 0) w:=⟨rfl,Row.nil _ _ _ _,(fun _ hr=>by cases hr),Row.nil _ _ _ _,Row.nil _ _ _ _⟩
theorem US.mem (h:US n0 x L vi vo vz w) {r:Rw} (hr:r∈L):r.i∈x.L:=by rw [← h.eq];exact List.mem_map.2 ⟨r,hr,rfl⟩
theorem US.tab (h:US n0 x L vi vo vz w) (hok:∀ y∈x.L,okI y/\∀ e∈y.ents,e.1.size<=maxLen):TabAt (fun b=>n0<=b) w vi L:=⟨h.rowI.at,fun r hr=>⟨(h.good r hr).1.at,(h.good r hr).2.at,(hok _ (h.mem hr)).1⟩⟩
theorem US.okN (h:US n0 x L vi vo vz w) (hok:∀ y∈x.L,okI y/\∀ e∈y.ents,e.1.size<=maxLen):Sp.okN L:=fun _ hr=>(hok _ (h.mem hr)).2
theorem US.opens (h:US n0 x L vi vo vz w):AtW Os.EO w vo x.O:=h.rowO.at.wide
theorem US.seats (h:US n0 x L vi vo vz w):AtW Es.ES w vz x.Z:=h.rowZ.at.wide
theorem US.slices (h:US n0 x L vi vo vz w):(∃ a n c,vi = .slice a n c)/\(∃ a n c,vo = .slice a n c)/\∃ a n c,vz = .slice a n c:=by
  obtain ⟨a,c,h1⟩:=h.rowI.slice
  obtain ⟨a2,c2,h2⟩:=h.rowO.slice
  obtain ⟨a3,c3,h3⟩:=h.rowZ.slice
  exact ⟨⟨_,_,_,h1⟩,⟨_,_,_,h2⟩,_,_,_,h3⟩
theorem RS.us {A:Nat} {w0:World} (h:RS n0 A x L vi vo vz w0 w):US n0 x L vi vo vz w:=⟨h.eq,h.rowI,h.good,h.rowO,h.rowZ⟩
end
/-- Four cells written. -/
def put4 (w:World) (A:Nat) (a b c d:Value):World:=(((w.setCell ⟨A,0,none⟩ a).setCell ⟨A,1,none⟩ b).setCell ⟨A,2,none⟩ c).setCell ⟨A,3,none⟩ d
theorem put4_gr (w:World) (A:Nat) (a b c d:Value):w.grownBy (put4 w A a b c d) (some A):=grown_trans (grown_trans (grown_trans (grs _ _ _ _) (grs _ _ _ _)) (grs _ _ _ _)) (grs _ _ _ _)
theorem put4_at {w:World} {A:Nat} {a b c d a' b' c' d':Value} {T:TypeId} (h:w.heap[A]? = some (.cells #[a',b',c',d'] T (0,0))):(put4 w A a b c d).heap[A]? = some (.cells #[a,b,c,d] T (0,0)):=by
  have:=set_at (set_at (set_at (set_at h 0 a) 1 b) 2 c) 3 d
  show ((((w.setCell ⟨A,0,none⟩ a).setCell ⟨A,1,none⟩ b).setCell ⟨A,2,none⟩ c).setCell ⟨A,3,none⟩ d).heap[A]? = _
  simpa using this
set_option maxHeartbeats 4000000 in
theorem shunp_any (s : ByteArray) (w : World) (hs : s.size ≤ 1048576) (hm : Sh.Sm (Sh.rdS s).L) :
    Calls Tryz.prog 11 #[.string s] w fun e w'=>∃ L vi vo vz,e = .returned (.tuple #[.agg #[vi,vo,vz,.int .i64 (Sh.unpS s).dn],.int .i64 (Sh.unpE s)])/\US w.heap.size (Sh.unpS s) L vi vo vz w'/\Below w.heap.size w w':=by
  obtain ⟨A2,hA2⟩:∃ n,n = w.heap.size:=⟨_,rfl⟩
  obtain ⟨W,hW⟩:∃ W,W = w.alloc BS0:=⟨_,rfl⟩
  have HT0:Hid (W.heap[A2]? = some BS0):=by show _ = _;rw [hW,hA2];exact heap_alloc_new _ _
  have HB0:Hid (Below w.heap.size w W):=by show Below _ _ _;rw [hW];exact (Below.refl _ _).alloc (Nat.le_refl _) _
  have HW:Hid (W = w.alloc BS0/\A2 = w.heap.size):=⟨hW,hA2⟩
  have HAw:Hid (w.heap.size<=A2):=by show _<=_;rw [hA2];exact Nat.le_refl _
  have HZ:Hid (s.size<=1048576):=hs
  have HSM:Hid (Sh.Sm (Sh.rdS s).L):=hm
  clear hs hm hW hA2
  go_enter Tryz.func11,Tryz.ntmps11
  go_wp2_with fail
  rw [← HW.out.1,← HW.out.2]
  refine (read_any s _ HZ.out).mono ?_
  rintro e w1 ⟨L,vi,vo,vz,rfl,u1,u2,u3,u4,u5,hb⟩
  obtain ⟨x,hx⟩:∃ x,Sh.rdS s = x:=⟨_,rfl⟩
  rw [hx] at u1 u4 u5 ⊢
  obtain ⟨n1,hn1⟩:∃ n,n = W.heap.size:=⟨_,rfl⟩
  rw [← hn1] at u2 u3 u4 u5
  have HU1:Hid (US n1 x L vi vo vz w1):=⟨u1,u2,u3,u4,u5⟩
  have HT1:Hid (w1.heap[A2]? = some BS0):=(hb.block _ (Array.getElem?_eq_some_iff.1 HT0.out).1).trans HT0.out
  have HB1:Hid (Below w.heap.size w w1):=HB0.out.trans (hb.mono HB0.out.size)
  have HN1:Hid (A2 < n1):=by show A2 < n1;rw [hn1];exact (Array.getElem?_eq_some_iff.1 HT0.out).1
  have HXS:Hid (x = Sh.rdS s):=hx.symm
  obtain ⟨⟨ia,im,ic,rfl⟩,⟨oa,om,oc,rfl⟩,za,zm,zc,rfl⟩:=HU1.out.slices
  obtain ⟨AX,hAX⟩:∃ n,n = w1.heap.size:=⟨_,rfl⟩
  obtain ⟨W2,hW2⟩:∃ V,V = w1.alloc (BSt (.slice ia im ic) (.slice oa om oc) (.slice za zm zc) x.dn):=⟨_,rfl⟩
  have HU:Hid (US n1 x L (.slice ia im ic) (.slice oa om oc) (.slice za zm zc) W2):=by show US _ _ _ _ _ _ _;rw [hW2];exact HU1.out.up ((Below.refl _ _).alloc (Nat.le_refl _) _)
  have HT:Hid (W2.heap[A2]? = some BS0):=by show _ = _;rw [hW2];exact (Below.heap_alloc _ _ _ (Array.getElem?_eq_some_iff.1 HT1.out).1).trans HT1.out
  have HX2:Hid (W2.heap[AX]? = some (BSt (.slice ia im ic) (.slice oa om oc) (.slice za zm zc) x.dn)):=by show _ = _;rw [hW2,hAX];exact heap_alloc_new _ _
  have HB:Hid (Below w.heap.size w W2):=by show Below _ _ _;rw [hW2];exact HB1.out.alloc HB1.out.size _
  clear u1 u2 u3 u4 u5 hb hx hn1 HT0 HB0 HU1 HT1 HB1
  go_wp2_with fail
  rw [← hW2,← hAX]
  clear hW2 hAX
  have HTB:=HU.out.tab (by rw [HXS.out];exact Sh.rdS_ok s)
  refine (shpack_any _ _ _ _ L x.O x.Z _ HTB (HU.out.okN (by rw [HXS.out];exact Sh.rdS_ok s)) HU.out.opens HU.out.seats (fun _=>by rw [HU.out.eq];exact (by rw [HXS.out];exact HSM.out))).mono ?_
  rintro e w3 ⟨rfl,hb⟩
  have HU3:Hid (US n1 x L (.slice ia im ic) (.slice oa om oc) (.slice za zm zc) w3):=HU.out.up hb
  have HT3:Hid (w3.heap[A2]? = some BS0):=(hb.block _ (Array.getElem?_eq_some_iff.1 HT.out).1).trans HT.out
  have HX3:Hid (w3.heap[AX]? = some (BSt (.slice ia im ic) (.slice oa om oc) (.slice za zm zc) x.dn)):=(hb.block _ (Array.getElem?_eq_some_iff.1 HX2.out).1).trans HX2.out
  have HB3:Hid (Below w.heap.size w w3):=HB.out.trans (hb.mono HB.out.size)
  rw [HU.out.eq]
  obtain ⟨q,hq⟩:∃ q,Sh.isS x s = q:=⟨_,rfl⟩
  clear hb HTB
  cases q with
  | true =>
    obtain ⟨h1,h2⟩:=(Sh.isS_iff x s).1 hq
    have HRES:Hid (Sh.unpS s = x/\Sh.unpE s = 0):=Sh.unp_yes (.inl HXS.out) hq
    rw [h1,h2]
    have t1:(s.toList == s.toList) = true:=beq_self_eq_true _
    have b0:=cell_at HX3.out 0
    have b1:=cell_at HX3.out 1
    have b2:=cell_at HX3.out 2
    have b3:=cell_at HX3.out 3
    simp at b0 b1 b2 b3
    clear h1 h2 hq
    have f0:=fr_at HT3.out
    have c0:=cell_at HT3.out 0
    have c1:=cell_at HT3.out 1
    have c2:=cell_at HT3.out 2
    have c3:=cell_at HT3.out 3
    simp at c0 c1 c2 c3
    have HF:Hid ((put4 w3 A2 (.slice ia im ic) (.slice oa om oc) (.slice za zm zc) (.int .i64 x.dn)).heap[A2]? = some (.cells #[.slice ia im ic,.slice oa om oc,.slice za zm zc,.int .i64 x.dn] 26)):=put4_at HT3.out
    have HBF:Hid (Below w.heap.size w (put4 w3 A2 (.slice ia im ic) (.slice oa om oc) (.slice za zm zc) (.int .i64 x.dn))):=HB3.out.grown (put4_gr _ _ _ _ _ _) HB3.out.size (fun j hj=>by cases hj;exact HAw.out)
    have HUF:Hid (US w.heap.size x L (.slice ia im ic) (.slice oa om oc) (.slice za zm zc) (put4 w3 A2 (.slice ia im ic) (.slice oa om oc) (.slice za zm zc) (.int .i64 x.dn))):=(HU3.out.kept (put4_gr _ _ _ _ _ _) (HN1.out)).low (Nat.le_of_lt (Nat.lt_of_le_of_lt HAw.out HN1.out))
    go_wp2
    have HE9:Hid (((((w3.setCell ⟨A2,0,none⟩ (.slice ia im ic)).setCell ⟨A2,1,none⟩ (.slice oa om oc)).setCell ⟨A2,2,none⟩ (.slice za zm zc)).setCell ⟨A2,3,none⟩ (.int .i64 x.dn)) = put4 w3 A2 (.slice ia im ic) (.slice oa om oc) (.slice za zm zc) (.int .i64 x.dn)):=rfl
    rw [HE9.out]
    generalize put4 w3 A2 (.slice ia im ic) (.slice oa om oc) (.slice za zm zc) (.int .i64 x.dn) = WF at HF HBF HUF HE9 ⊢
    clear HE9
    have d0:=cell_at HF.out 0
    have d1:=cell_at HF.out 1
    have d2:=cell_at HF.out 2
    have d3:=cell_at HF.out 3
    simp at d0 d1 d2 d3
    refine bodyPost_ret (v:=.tuple #[.agg #[.slice ia im ic,.slice oa om oc,.slice za zm zc,.int .i64 x.dn],.int .i64 0]) (by simp [results,Tryz.results11,go_sem,d0,d1,d2,d3]) rfl ⟨L,.slice ia im ic,.slice oa om oc,.slice za zm zc,?_,?_,HBF.out⟩
    · rw [HRES.out.1,HRES.out.2]
    · rw [HRES.out.1]
      exact HUF.out
  | false =>
    have HRES:Hid (Sh.unpS s = Sh.st0/\Sh.unpE s = 4):=Sh.unp_no (.inl HXS.out) hq
    have hq':¬ (Sh.pkE x.L x.O x.Z x.dn = 0/\Sh.pkO x.L x.O x.Z x.dn = s):=fun h=>by rw [(Sh.isS_iff x s).2 h] at hq;cases hq
    clear hq HX3
    generalize Sh.pkE x.L x.O x.Z x.dn = pe at *
    generalize Sh.pkO x.L x.O x.Z x.dn = po at *
    by_cases h0:pe = 0
    · have h3 : po ≠ s := fun h => hq' ⟨h0, h⟩
      have t1:=Ks.Rs.str_ne h3
      subst h0
      clear hq' h3
      have f0:=fr_at HT3.out
      have c0:=cell_at HT3.out 0
      have c1:=cell_at HT3.out 1
      have c2:=cell_at HT3.out 2
      have c3:=cell_at HT3.out 3
      simp at c0 c1 c2 c3
      have HF:Hid ((put4 w3 A2 (.slice none 0 0) (.slice none 0 0) (.slice none 0 0) (.int .i64 0)).heap[A2]? = some (.cells #[.slice none 0 0,.slice none 0 0,.slice none 0 0,.int .i64 0] 26)):=put4_at HT3.out
      have HBF:Hid (Below w.heap.size w (put4 w3 A2 (.slice none 0 0) (.slice none 0 0) (.slice none 0 0) (.int .i64 0))):=HB3.out.grown (put4_gr _ _ _ _ _ _) HB3.out.size (fun j hj=>by cases hj;exact HAw.out)
      go_wp2
      have HE9:Hid (((((w3.setCell ⟨A2,0,none⟩ (.slice none 0 0)).setCell ⟨A2,1,none⟩ (.slice none 0 0)).setCell ⟨A2,2,none⟩ (.slice none 0 0)).setCell ⟨A2,3,none⟩ (.int .i64 0)) = put4 w3 A2 (.slice none 0 0) (.slice none 0 0) (.slice none 0 0) (.int .i64 0)):=rfl
      rw [HE9.out]
      generalize put4 w3 A2 (.slice none 0 0) (.slice none 0 0) (.slice none 0 0) (.int .i64 0) = WF at HF HBF HE9 ⊢
      clear HE9
      have d0:=cell_at HF.out 0
      have d1:=cell_at HF.out 1
      have d2:=cell_at HF.out 2
      have d3:=cell_at HF.out 3
      simp at d0 d1 d2 d3
      refine bodyPost_ret (v:=.tuple #[.agg #[.slice none 0 0,.slice none 0 0,.slice none 0 0,.int .i64 0],.int .i64 4]) (by simp [results,Tryz.results11,go_sem,d0,d1,d2,d3]) rfl ⟨[],.slice none 0 0,.slice none 0 0,.slice none 0 0,?_,?_,HBF.out⟩
      · rw [HRES.out.1,HRES.out.2];rfl
      · rw [HRES.out.1]
        exact US.none _ _
    · have t2 : (pe != 0) = true := by simp [h0]
      clear hq' h0
      have f0:=fr_at HT3.out
      have c0:=cell_at HT3.out 0
      have c1:=cell_at HT3.out 1
      have c2:=cell_at HT3.out 2
      have c3:=cell_at HT3.out 3
      simp at c0 c1 c2 c3
      have HF:Hid ((put4 w3 A2 (.slice none 0 0) (.slice none 0 0) (.slice none 0 0) (.int .i64 0)).heap[A2]? = some (.cells #[.slice none 0 0,.slice none 0 0,.slice none 0 0,.int .i64 0] 26)):=put4_at HT3.out
      have HBF:Hid (Below w.heap.size w (put4 w3 A2 (.slice none 0 0) (.slice none 0 0) (.slice none 0 0) (.int .i64 0))):=HB3.out.grown (put4_gr _ _ _ _ _ _) HB3.out.size (fun j hj=>by cases hj;exact HAw.out)
      go_wp2
      have HE9:Hid (((((w3.setCell ⟨A2,0,none⟩ (.slice none 0 0)).setCell ⟨A2,1,none⟩ (.slice none 0 0)).setCell ⟨A2,2,none⟩ (.slice none 0 0)).setCell ⟨A2,3,none⟩ (.int .i64 0)) = put4 w3 A2 (.slice none 0 0) (.slice none 0 0) (.slice none 0 0) (.int .i64 0)):=rfl
      rw [HE9.out]
      generalize put4 w3 A2 (.slice none 0 0) (.slice none 0 0) (.slice none 0 0) (.int .i64 0) = WF at HF HBF HE9 ⊢
      clear HE9
      have d0:=cell_at HF.out 0
      have d1:=cell_at HF.out 1
      have d2:=cell_at HF.out 2
      have d3:=cell_at HF.out 3
      simp at d0 d1 d2 d3
      refine bodyPost_ret (v:=.tuple #[.agg #[.slice none 0 0,.slice none 0 0,.slice none 0 0,.int .i64 0],.int .i64 4]) (by simp [results,Tryz.results11,go_sem,d0,d1,d2,d3]) rfl ⟨[],.slice none 0 0,.slice none 0 0,.slice none 0 0,?_,?_,HBF.out⟩
      · rw [HRES.out.1,HRES.out.2];rfl
      · rw [HRES.out.1]
        exact US.none _ _
end Go.Proofs.YtggoccfddnpelaaGreatDoor
