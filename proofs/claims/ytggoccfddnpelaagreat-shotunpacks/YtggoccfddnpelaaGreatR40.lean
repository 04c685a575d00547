/- ZRv, ZLu, as one. -/
import Derived.Test.YtggoccfddnpelaaGreatR39
namespace Go.Proofs.YtggoccfddnpelaaGreat
open Go.ChangeShapes Go.WideShapes Go.ChangeAt Go.RowKit Go.Deep It
set_option maxRecDepth 100000
set_option linter.unusedSimpArgs false in
set_option maxHeartbeats 8000000 in
theorem rstU_any (s : ByteArray) (w : World) (hs : s.size ≤ 1048576) (hm : Sh.Sm (Sh.qS s).L) :
    Calls Tryz.prog 7 #[.string s] w fun e w'=>∃ L vi vo vz,e = .returned (.tuple #[.agg #[vi,vo,vz,.int .i64 (Sh.unpS s).dn],.int .i64 (Sh.unpE s)])/\US w.heap.size (Sh.unpS s) L vi vo vz w'/\Below w.heap.size w w':=by
  obtain ⟨A2,hA2⟩:∃ n,n = w.heap.size:=⟨_,rfl⟩
  obtain ⟨W,hW⟩:∃ W,W = w.alloc BS0:=⟨_,rfl⟩
  have HT0:Hid (W.heap[A2]? = some BS0):=by show _ = _;rw [hW,hA2];exact heap_alloc_new _ _
  have HB0:Hid (Below w.heap.size w W):=by show Below _ _ _;rw [hW];exact (Below.refl _ _).alloc (Nat.le_refl _) _
  have HW:Hid (W = w.alloc BS0/\A2 = w.heap.size):=⟨hW,hA2⟩
  have HZ:Hid (s.size<=1048576):=hs
  have HSM:Hid (Sh.Sm (Sh.qS s).L):=hm
  clear hs hm hW hA2
  go_enter Tryz.func7,Tryz.ntmps7
  go_wp2_with fail
  rw [← HW.out.1,← HW.out.2]
  refine (Ks.refUnpack_any s _ HZ.out).mono ?_
  rintro e w2 ⟨r,rfl,hown,hb⟩
  have HT2:Hid (w2.heap[A2]? = some BS0):=(hb.block _ (Array.getElem?_eq_some_iff.1 HT0.out).1).trans HT0.out
  have HB2:Hid (Below w.heap.size w w2):=HB0.out.trans (hb.mono HB0.out.size)
  obtain ⟨l,hl⟩:∃ l,Ks.Pl.unpOut s.data.toList = l:=⟨_,rfl⟩
  have HL:Hid (Ks.Pl.unpOut s.data.toList = l):=hl
  have HLS:Hid (∀ f∈l,f.2.size<=1048576):=by
    intro f hf
    rw [← hl] at hf
    exact Nat.le_trans (Ks.Rs.Ak.parse_small _ _ _ f hf) (by decide)
  rw [hl] at hown
  obtain ⟨ao,cap,rfl,hm,hx⟩:=flds (Ks.FieldsAt.of_own hown)
  have hmm:l.length<=1048576:=by
    have:=Sh.unp_len s
    rw [hl] at this
    have:=HZ.out
    omega
  obtain ⟨n,hn⟩:∃ n,l.length = n:=⟨_,rfl⟩
  rw [hn] at hmm ⊢
  have HN:Hid (l.length = n):=hn
  have HX:Hid (∀ i x,l[i]? = some x->∃ b off,ao = some ⟨b,off,none⟩/\b < w2.heap.size/\w2.cell? ⟨b,off + i * 2,none⟩ = some (.int .i64 x.1)/\w2.cell? ⟨b,off + i * 2 + 1,none⟩ = some (.string x.2)):=hx
  clear hown hb hl hn hx hm HT0 HB0
  have HAw:Hid (w.heap.size<=A2):=by show w.heap.size<=A2;rw [HW.out.2];exact Nat.le_refl _
  obtain ⟨er,her⟩:∃ q,Ks.Pl.unpErr s.data.toList = q:=⟨_,rfl⟩
  have HER:Hid (Ks.Pl.unpErr s.data.toList = er):=her
  rw [her]
  clear her
  by_cases he0:er = 0
  · subst he0
    go_wp2_with fail
    obtain ⟨A,hA⟩:∃ n,n = w2.heap.size:=⟨_,rfl⟩
    obtain ⟨W3,hW3⟩:∃ V,V = w2.alloc BS0:=⟨_,rfl⟩
    have HR:Hid (RS A A Sh.st0 [] (.slice none 0 0) (.slice none 0 0) (.slice none 0 0) w2 W3):=by
      show RS _ _ _ _ _ _ _ _ _
      rw [hW3,hA]
      exact ⟨heap_alloc_new w2 _,rfl,Row.nil _ _ _ _,(fun _ hr=>by cases hr),Row.nil _ _ _ _,Row.nil _ _ _ _,Nat.le_refl _,(Below.refl _ _).alloc (Nat.le_refl _) _,Nat.le_refl _⟩
    rw [← hW3,← hA]
    have HA:Hid (A = w2.heap.size):=hA
    clear hW3 hA
    go_loopw [23] (fun i wr=>∃ (k:Nat) (x:Sh.Sta) (L:List Rw) (vi vo vz:Value),k<=n/\i = .int .i64 k/\Hid (RS A A x L vi vo vz w2 wr)/\Hid (x = (l.take k).foldl Sh.qtS Sh.st0)) (fun i _=>n - (intOf i).toNat)
    case atStart=>exact ⟨0,Sh.st0,[],_,_,_,Nat.zero_le _,rfl,HR,by rw [List.take_zero];rfl⟩
    case round =>
      obtain ⟨k,x,L,vi,vo,vz,hk,rfl,HI,HE⟩:=hrel
      by_cases hlt:k < n
      · obtain ⟨⟨tag, v⟩, hf⟩ : ∃ f, l[k]? = some f := ⟨_, List.getElem?_eq_getElem (by rw [HN.out]; exact hlt)⟩
        obtain ⟨b0,off,rfl,hb0,c0',c1'⟩:=HX.out k _ hf
        have hbA:b0 < A:=by rw [HA.out];exact hb0
        have c0:wr.cell? ⟨b0,off + k * 2,none⟩ = some (.int .i64 tag):=(HI.out.bl.cell (p:=⟨b0,off + k * 2,none⟩) hbA).trans c0'
        have c1:wr.cell? ⟨b0,off + k * 2 + 1,none⟩ = some (.string v):=(HI.out.bl.cell (p:=⟨b0,off + k * 2 + 1,none⟩) hbA).trans c1'
        have HV:Hid (v.size<=1048576):=HLS.out _ (List.mem_of_getElem? hf)
        have HNX:Hid ((l.take (k + 1)).foldl Sh.qtS Sh.st0 = Sh.qtS x (tag,v)):=by show _ = _;rw [Sh.fold_take _ _ _ hf,← HE.out]
        have HLN:Hid (x.L.length<=k/\x.O.length<=k/\x.Z.length<=k):=by
          show _/\_/\_
          have h1:=Sh.qtS_lens (l.take k) Sh.st0
          rw [← HE.out] at h1
          have h2:(l.take k).length<=k:=by rw [List.length_take];omega
          have h3:Sh.st0.L.length = 0/\Sh.st0.O.length = 0/\Sh.st0.Z.length = 0:=⟨rfl,rfl,rfl⟩
          omega
        obtain ⟨W4,hW4⟩:∃ V,V = wr.alloc (.cells #[.int .i64 tag,.string v] 45):=⟨_,rfl⟩
        have HI4:Hid (RS A A x L vi vo vz w2 W4):=by show RS _ _ _ _ _ _ _ _ _;rw [hW4];exact HI.out.up ((Below.refl _ _).alloc (Nat.le_refl _) _)
        have hlt':(k:Int) < (n:Int):=by omega
        clear c0' c1' hf hb0 HI
        by_cases e1:tag = 1
        · subst e1
          have t1:((1:Int) == 1) = true:=rfl
          go_wp2_with fail
          rw [← hW4]
          clear hW4 c0 c1
          refine (rpart_any v 0 6 _ HV.out (by decide) (by decide)).mono ?_
          rintro e w' ⟨rfl,rfl⟩
          have HI6:Hid (RS A A { x with dn:=Sh.pt v 0 6 } L vi vo vz w2 (w'.setCell ⟨A,3,none⟩ (.int .i64 (Sh.pt v 0 6)))):=HI4.out.done _
          have f0:=fr_at HI4.out.box
          have q0:=cell_at HI4.out.box 3
          simp at q0
          clear HI4
          go_wp2
          go_roundw
          case rel=>exact ⟨k + 1,_,L,vi,vo,vz,by omega,by go_num,HI6,by show _ = _;rw [HNX.out];unfold Sh.qtS;simp⟩
          case measure=>simp [intOf];omega
        · have t1 : (tag == 1) = false := by simp [e1]
          by_cases e2:tag = 2
          · subst e2
            have t2:((2:Int) == 2) = true:=rfl
            have f9:=fr_at HI4.out.box
            have q9:=cell_at HI4.out.box 0
            simp at q9
            go_wp2_with fail
            rw [← hW4]
            clear hW4 c0 c1 f9 q9
            refine wp_region_any (by kernel_rfl) ?_
            change wpAny _ _ _ _ _ _ _ (World.drew _)
            refine wpAny_take (i:=0) (v:=?vi0) rfl (by kernel_rfl) (by kernel_rfl) (by kernel_rfl) (fun _ _ _ h=>h) (Or.inl ⟨by rfl,?hi0⟩) ?ri0
            case hi0=>(intro w;go_simp;try with_reducible rfl)
            try simp only [Act.put,List.setIfInBounds_toArray,List.set_cons_zero,List.set_cons_succ]
            refine wpAny_take (i:=2) (v:=?vi2) rfl (by kernel_rfl) (by kernel_rfl) (by kernel_rfl) (fun _ _ _ h=>h) (Or.inl ⟨by rfl,?hi2⟩) ?ri2
            case hi2=>(intro w;go_simp;try with_reducible rfl)
            try simp only [Act.put,List.setIfInBounds_toArray,List.set_cons_zero,List.set_cons_succ]
            have HS:(fun V:World=>V.cell? ⟨A,0,none⟩ = some vi) W4.drew:=by have h:=cell_at HI4.out.drew.box 0;simpa using h
            refine Fst.any_of (late:=fun k=>[7].contains k) (S:=(fun V:World=>V.cell? ⟨A,0,none⟩ = some vi)) _ _ _ _ ?_
            refine Fst.take (ls:=[7]) (i:=1) (v:=?vi1) rfl (by kernel_rfl) (by kernel_rfl) (by kernel_rfl) (by kernel_rfl) (by kernel_rfl) (fun _ _ _ h=>h) (Or.inl ⟨by rfl,?hi1⟩) HS ?ri1
            case hi1=>(intro V s5;go_simp;try with_reducible rfl)
            try simp only [Act.put,List.setIfInBounds_toArray,List.set_cons_zero,List.set_cons_succ]
            clear HS
            refine Fst.one (late:=fun k=>[7].contains k) (i:=3) (by kernel_rfl) rfl (fun K hK=>?_)
            go_simp
            refine (uninode_any v W4.drew HV.out).mono ?_
            rintro e w5 ⟨rv,ev,rfl,hr5,he5,hb⟩
            obtain ⟨ra,rn,rc,rfl⟩:∃ a m c,rv = .slice a m c:=by rcases hr5 with ⟨rfl,-⟩ | ⟨g,cap,cur,rfl,-⟩ <;> exact ⟨_,_,_,rfl⟩
            obtain ⟨ea,en,ec,rfl⟩:∃ a m c,ev = .slice a m c:=by rcases he5 with ⟨rfl,-⟩ | ⟨g,cap,cur,rfl,-⟩ <;> exact ⟨_,_,_,rfl⟩
            have HR5:Hid (Row ER w5 A 67 (.slice ra rn rc) (Sh.qI v).runs):=hr5.low HI4.out.sz
            have HE5:Hid (Row EE w5 A 91 (.slice ea en ec) (Sh.qI v).ents):=he5.low HI4.out.sz
            clear hr5 he5
            have HI5:Hid (RS A A x L vi vo vz w2 w5):=HI4.out.drew.up hb
            clear hb HI4
            (try go_wp2_with fail)
            have HS:(fun V:World=>V.cell? ⟨A,0,none⟩ = some vi) w5:=by have h:=cell_at HI5.out.box 0;simpa using h
            refine hK _ _ HS ?_
            clear hK K
            try simp only [Act.put,List.setIfInBounds_toArray,List.set_cons_zero,List.set_cons_succ]
            clear HS
            refine Fst.one (late:=fun k=>[7].contains k) (i:=4) (by kernel_rfl) rfl (fun K hK=>?_)
            go_simp
            (try go_wp2_with fail)
            obtain ⟨W6,hW6⟩:∃ V,V = (w5.alloc (.cells #[.int .i64 (Sh.qI v).gen,.int .i64 (Sh.qI v).kind,.int .i64 (Sh.qI v).links,.int .i64 (Sh.qI v).size,.int .i64 (Sh.qI v).stamp,.slice ra rn rc,.slice ea en ec,.int .i64 (Sh.qI v).next] 52)):=⟨_,rfl⟩
            have HI6:Hid (RS A A x L vi vo vz w2 W6):=by show RS A A x L vi vo vz w2 W6;rw [hW6];exact (HI5.out.up ((Below.refl _ _).alloc (Nat.le_refl _) _))
            have HX6:Hid (W6.heap[w5.heap.size]? = some (.cells #[.int .i64 (Sh.qI v).gen,.int .i64 (Sh.qI v).kind,.int .i64 (Sh.qI v).links,.int .i64 (Sh.qI v).size,.int .i64 (Sh.qI v).stamp,.slice ra rn rc,.slice ea en ec,.int .i64 (Sh.qI v).next] 52)):=by show _ = _;rw [hW6];exact heap_alloc_new w5 _
            have HR6:Hid (Row ER W6 A 67 (.slice ra rn rc) (Sh.qI v).runs):=by show Row _ _ _ _ _ _;rw [hW6];exact HR5.out.up ((Below.refl _ _).alloc (Nat.le_refl _) _)
            have HE6:Hid (Row EE W6 A 91 (.slice ea en ec) (Sh.qI v).ents):=by show Row _ _ _ _ _ _;rw [hW6];exact HE5.out.up ((Below.refl _ _).alloc (Nat.le_refl _) _)
            have HLL:Hid (L.length<=k):=by
              show L.length<=k
              have h:=HLN.out.1
              rw [← HI6.out.eq] at h
              simpa [pl] using h
            rw [← hW6]
            have HS:(fun V:World=>V.cell? ⟨A,0,none⟩ = some vi) W6:=by have h:=cell_at HI6.out.box 0;simpa using h
            refine hK _ _ HS ?_
            clear hK K hW6
            try simp only [Act.put,List.setIfInBounds_toArray,List.set_cons_zero,List.set_cons_succ]
            clear HS
            refine Fst.one (late:=fun k=>[7].contains k) (i:=5) (by kernel_rfl) rfl (fun K hK=>?_)
            obtain ⟨i0,hi,hz0,hz1,hz2⟩:=info_parts infoI
            refine step_row rfl _ _ _ rfl EI (fun _=>True) A 52 i0 (.agg #[.int .i64 0,.int .i64 0,.int .i64 0,.int .i64 0,.int .i64 0,.slice none 0 0,.slice none 0 0,.int .i64 0]) 96 Tryz.underlying23 hi hz0 hz1 hz2 rfl vi L rfl HI6.out.rowI _ [⟨Sh.qI v,ra,rn,rc,ea,en,ec⟩] rfl (at_ino (r:=⟨Sh.qI v,ra,rn,rc,ea,en,ec⟩) HX6.out) (by have:=HLL.out;unfold maxLen;simp;omega) (by have:=HLL.out;simp;omega) HI6.out.sz ?_
            intro v9 w9 g1 g2 _
            obtain ⟨a9,m9,c9,rfl⟩:∃ a m c,v9 = .slice a m c:=by rcases g1 with ⟨rfl,-⟩ | ⟨g,cap,cur,rfl,-⟩ <;> exact ⟨_,_,_,rfl⟩
            have HI7:=HI6.out.ino (r:=⟨Sh.qI v,ra,rn,rc,ea,en,ec⟩) g1 g2 HR6.out HE6.out
            have HI8:Hid (w9.heap[A]? = some (BSt vi vo vz x.dn)):=HI7.2
            have HI9:Hid (RS A A { x with L:=x.L ++ [Sh.qI v] } (L ++ [⟨Sh.qI v,ra,rn,rc,ea,en,ec⟩]) (.slice a9 m9 c9) vo vz w2 (w9.setCell ⟨A,0,none⟩ (.slice a9 m9 c9))):=HI7.1
            clear HI7
            have HS:(fun V:World=>V.cell? ⟨A,0,none⟩ = some vi) w9:=by have h:=cell_at HI8.out 0;simpa using h
            refine hK _ _ HS ?_
            clear hK K HI6 HX6
            try simp only [Act.put,List.setIfInBounds_toArray,List.set_cons_zero,List.set_cons_succ]
            refine Fst.take (ls:=[7]) (i:=6) (v:=?vi6) rfl (by kernel_rfl) (by kernel_rfl) (by kernel_rfl) (by kernel_rfl) (by kernel_rfl) (fun _ _ _ h=>h) (Or.inl ⟨by rfl,?hi6⟩) HS ?ri6
            case hi6=>(intro V s5;go_simp;try with_reducible rfl)
            try simp only [Act.put,List.setIfInBounds_toArray,List.set_cons_zero,List.set_cons_succ]
            refine Fst.rest (by kernel_rfl) ?_
            have f8:=fr_at HI8.out
            have q8:=cell_at HI8.out 0
            simp at q8
            clear HS HI8
            refine wpAny_ready (rs:=[7]) (by kernel_rfl) (by simp) ?_
            refine AllReady.cons rfl (fun K hK=>?_) AllReady.nil
            go_simp
            (try go_wp2_with fail)
            first | (refine hK _ _ ?_;clear hK K) | skip
            try simp only [Act.put,List.setIfInBounds_toArray,List.set_cons_zero,List.set_cons_succ]
            refine wpAny_done (by kernel_rfl) ?_ _
            clear q8 f8
            go_wp2
            go_roundw
            case rel=>exact ⟨k + 1,_,L ++ [⟨Sh.qI v,ra,rn,rc,ea,en,ec⟩],.slice a9 m9 c9,vo,vz,by omega,by go_num,HI9,by show _ = _;rw [HNX.out];unfold Sh.qtS;simp⟩
            case measure=>simp [intOf];omega
          · have t2 : (tag == 2) = false := by simp [e2]
            by_cases e3:tag = 3
            · subst e3
              have t3:((3:Int) == 3) = true:=rfl
              have f9:=fr_at HI4.out.box
              have q9:=cell_at HI4.out.box 1
              simp at q9
              go_wp2_with fail
              rw [← hW4]
              clear hW4 c0 c1 f9 q9
              refine wp_region_any (by kernel_rfl) ?_
              change wpAny _ _ _ _ _ _ _ (World.drew _)
              refine wpAny_take (i:=0) (v:=?vo0) rfl (by kernel_rfl) (by kernel_rfl) (by kernel_rfl) (fun _ _ _ h=>h) (Or.inl ⟨by rfl,?ho0⟩) ?ro0
              case ho0=>(intro w;go_simp;try with_reducible rfl)
              try simp only [Act.put,List.setIfInBounds_toArray,List.set_cons_zero,List.set_cons_succ]
              refine wpAny_take (i:=2) (v:=?vo2) rfl (by kernel_rfl) (by kernel_rfl) (by kernel_rfl) (fun _ _ _ h=>h) (Or.inl ⟨by rfl,?ho2⟩) ?ro2
              case ho2=>(intro w;go_simp;try with_reducible rfl)
              try simp only [Act.put,List.setIfInBounds_toArray,List.set_cons_zero,List.set_cons_succ]
              refine wpAny_take (i:=4) (v:=?vo4) rfl (by kernel_rfl) (by kernel_rfl) (by kernel_rfl) (fun _ _ _ h=>h) (Or.inl ⟨by rfl,?ho4⟩) ?ro4
              case ho4=>(intro w;go_simp;try with_reducible rfl)
              try simp only [Act.put,List.setIfInBounds_toArray,List.set_cons_zero,List.set_cons_succ]
              refine wpAny_take (i:=6) (v:=?vo6) rfl (by kernel_rfl) (by kernel_rfl) (by kernel_rfl) (fun _ _ _ h=>h) (Or.inl ⟨by rfl,?ho6⟩) ?ro6
              case ho6=>(intro w;go_simp;try with_reducible rfl)
              try simp only [Act.put,List.setIfInBounds_toArray,List.set_cons_zero,List.set_cons_succ]
              refine wpAny_take (i:=8) (v:=?vo8) rfl (by kernel_rfl) (by kernel_rfl) (by kernel_rfl) (fun _ _ _ h=>h) (Or.inl ⟨by rfl,?ho8⟩) ?ro8
              case ho8=>(intro w;go_simp;try with_reducible rfl)
              try simp only [Act.put,List.setIfInBounds_toArray,List.set_cons_zero,List.set_cons_succ]
              have HS:(fun V:World=>V.cell? ⟨A,1,none⟩ = some vo) W4.drew:=by have h:=cell_at HI4.out.drew.box 1;simpa using h
              refine Fst.any_of (late:=fun k=>[15].contains k) (S:=(fun V:World=>V.cell? ⟨A,1,none⟩ = some vo)) _ _ _ _ ?_
              refine Fst.take (ls:=[15]) (i:=1) (v:=?vo1) rfl (by kernel_rfl) (by kernel_rfl) (by kernel_rfl) (by kernel_rfl) (by kernel_rfl) (fun _ _ _ h=>h) (Or.inl ⟨by rfl,?ho1⟩) HS ?ro1
              case ho1=>(intro V s5;go_simp;try with_reducible rfl)
              try simp only [Act.put,List.setIfInBounds_toArray,List.set_cons_zero,List.set_cons_succ]
              refine Fst.one (late:=fun k=>[15].contains k) (i:=3) (by kernel_rfl) rfl (fun K hK=>?_)
              go_simp
              refine (rpart_any v 0 1 _ HV.out (by decide) (by decide)).mono ?_
              rintro e w' ⟨rfl,rfl⟩
              (try go_wp2_with fail)
              refine hK _ _ HS ?_
              clear hK K
              try simp only [Act.put,List.setIfInBounds_toArray,List.set_cons_zero,List.set_cons_succ]
              refine Fst.one (late:=fun k=>[15].contains k) (i:=5) (by kernel_rfl) rfl (fun K hK=>?_)
              go_simp
              refine (rpart_any v 1 6 _ HV.out (by decide) (by decide)).mono ?_
              rintro e w' ⟨rfl,rfl⟩
              (try go_wp2_with fail)
              refine hK _ _ HS ?_
              clear hK K
              try simp only [Act.put,List.setIfInBounds_toArray,List.set_cons_zero,List.set_cons_succ]
              refine Fst.one (late:=fun k=>[15].contains k) (i:=7) (by kernel_rfl) rfl (fun K hK=>?_)
              go_simp
              refine (rpart_any v 7 1 _ HV.out (by decide) (by decide)).mono ?_
              rintro e w' ⟨rfl,rfl⟩
              (try go_wp2_with fail)
              refine hK _ _ HS ?_
              clear hK K
              try simp only [Act.put,List.setIfInBounds_toArray,List.set_cons_zero,List.set_cons_succ]
              refine Fst.one (late:=fun k=>[15].contains k) (i:=9) (by kernel_rfl) rfl (fun K hK=>?_)
              go_simp
              refine (rpart_any v 8 6 _ HV.out (by decide) (by decide)).mono ?_
              rintro e w' ⟨rfl,rfl⟩
              (try go_wp2_with fail)
              refine hK _ _ HS ?_
              clear hK K
              try simp only [Act.put,List.setIfInBounds_toArray,List.set_cons_zero,List.set_cons_succ]
              refine Fst.take (ls:=[15]) (i:=10) (v:=?vo10) rfl (by kernel_rfl) (by kernel_rfl) (by kernel_rfl) (by kernel_rfl) (by kernel_rfl) (fun _ _ _ h=>h) (Or.inl ⟨by rfl,?ho10⟩) HS ?ro10
              case ho10=>(intro V s5;go_simp;try with_reducible rfl)
              try simp only [Act.put,List.setIfInBounds_toArray,List.set_cons_zero,List.set_cons_succ]
              refine Fst.take (ls:=[15]) (i:=11) (v:=?vo11) rfl (by kernel_rfl) (by kernel_rfl) (by kernel_rfl) (by kernel_rfl) (by kernel_rfl) (fun _ _ _ h=>h) (Or.inl ⟨by rfl,?ho11⟩) HS ?ro11
              case ho11=>(intro V s5;go_simp;try with_reducible rfl)
              try simp only [Act.put,List.setIfInBounds_toArray,List.set_cons_zero,List.set_cons_succ]
              clear HS
              refine Fst.one (late:=fun k=>[15].contains k) (i:=12) (by kernel_rfl) rfl (fun K hK=>?_)
              go_simp
              (try go_wp2_with fail)
              obtain ⟨W6,hW6⟩:∃ V,V = (W4.alloc (.cells #[.int .i64 (Sh.pt v 0 1),.int .i64 (Sh.pt v 1 6),.int .i64 (Sh.pt v 7 1),.int .i64 (Sh.pt v 8 6)] 57)).drew:=⟨_,rfl⟩
              have HI6:Hid (RS A A x L vi vo vz w2 W6):=by show RS A A x L vi vo vz w2 W6;rw [hW6];exact (HI4.out.up ((Below.refl _ _).alloc (Nat.le_refl _) _)).drew
              have HX6:Hid (W6.heap[W4.heap.size]? = some (.cells #[.int .i64 (Sh.pt v 0 1),.int .i64 (Sh.pt v 1 6),.int .i64 (Sh.pt v 7 1),.int .i64 (Sh.pt v 8 6)] 57)):=by show _ = _;rw [hW6];exact heap_alloc_new W4 _
              rw [← hW6]
              have HS:(fun V:World=>V.cell? ⟨A,1,none⟩ = some vo) W6:=by have h:=cell_at HI6.out.box 1;simpa using h
              refine hK _ _ HS ?_
              clear hK K hW6
              try simp only [Act.put,List.setIfInBounds_toArray,List.set_cons_zero,List.set_cons_succ]
              clear HS
              refine Fst.one (late:=fun k=>[15].contains k) (i:=13) (by kernel_rfl) rfl (fun K hK=>?_)
              obtain ⟨i0,hi,hz0,hz1,hz2⟩:=info_parts Os.infoO
              refine step_row rfl _ _ _ rfl Os.EO (fun _=>True) A 57 i0 (.agg #[.int .i64 0,.int .i64 0,.int .i64 0,.int .i64 0]) 32 Tryz.underlying24 hi hz0 hz1 hz2 rfl vo x.O rfl HI6.out.rowO _ [Sh.qO v] rfl (at_opn (r:=Sh.qO v) HX6.out) (by have:=HLN.out.2.1;unfold maxLen;simp;omega) (by have:=HLN.out.2.1;simp;omega) HI6.out.sz ?_
              intro v9 w9 g1 g2 _
              obtain ⟨a9,m9,c9,rfl⟩:∃ a m c,v9 = .slice a m c:=by rcases g1 with ⟨rfl,-⟩ | ⟨g,cap,cur,rfl,-⟩ <;> exact ⟨_,_,_,rfl⟩
              have HI7:=HI6.out.opn g1 g2
              have HI8:Hid (w9.heap[A]? = some (BSt vi vo vz x.dn)):=HI7.2
              have HI9:Hid (RS A A { x with O:=x.O ++ [Sh.qO v] } L vi (.slice a9 m9 c9) vz w2 (w9.setCell ⟨A,1,none⟩ (.slice a9 m9 c9))):=HI7.1
              clear HI7
              have HS:(fun V:World=>V.cell? ⟨A,1,none⟩ = some vo) w9:=by have h:=cell_at HI8.out 1;simpa using h
              refine hK _ _ HS ?_
              clear hK K HI6 HX6
              try simp only [Act.put,List.setIfInBounds_toArray,List.set_cons_zero,List.set_cons_succ]
              refine Fst.take (ls:=[15]) (i:=14) (v:=?vo14) rfl (by kernel_rfl) (by kernel_rfl) (by kernel_rfl) (by kernel_rfl) (by kernel_rfl) (fun _ _ _ h=>h) (Or.inl ⟨by rfl,?ho14⟩) HS ?ro14
              case ho14=>(intro V s5;go_simp;try with_reducible rfl)
              try simp only [Act.put,List.setIfInBounds_toArray,List.set_cons_zero,List.set_cons_succ]
              refine Fst.rest (by kernel_rfl) ?_
              have f8:=fr_at HI8.out
              have q8:=cell_at HI8.out 1
              simp at q8
              clear HS HI8
              refine wpAny_ready (rs:=[15]) (by kernel_rfl) (by simp) ?_
              refine AllReady.cons rfl (fun K hK=>?_) AllReady.nil
              go_simp
              (try go_wp2_with fail)
              first | (refine hK _ _ ?_;clear hK K) | skip
              try simp only [Act.put,List.setIfInBounds_toArray,List.set_cons_zero,List.set_cons_succ]
              refine wpAny_done (by kernel_rfl) ?_ _
              clear q8 f8
              go_wp2
              go_roundw
              case rel=>exact ⟨k + 1,_,L,vi,.slice a9 m9 c9,vz,by omega,by go_num,HI9,by show _ = _;rw [HNX.out];unfold Sh.qtS;simp⟩
              case measure=>simp [intOf];omega
            · have t3 : (tag == 3) = false := by simp [e3]
              by_cases e4:tag = 4
              · subst e4
                have t4:((4:Int) == 4) = true:=rfl
                have f9:=fr_at HI4.out.box
                have q9:=cell_at HI4.out.box 2
                simp at q9
                go_wp2_with fail
                rw [← hW4]
                clear hW4 c0 c1 f9 q9
                refine wp_region_any (by kernel_rfl) ?_
                change wpAny _ _ _ _ _ _ _ (World.drew _)
                refine wpAny_take (i:=0) (v:=?vz0) rfl (by kernel_rfl) (by kernel_rfl) (by kernel_rfl) (fun _ _ _ h=>h) (Or.inl ⟨by rfl,?hz0⟩) ?rz0
                case hz0=>(intro w;go_simp;try with_reducible rfl)
                try simp only [Act.put,List.setIfInBounds_toArray,List.set_cons_zero,List.set_cons_succ]
                refine wpAny_take (i:=2) (v:=?vz2) rfl (by kernel_rfl) (by kernel_rfl) (by kernel_rfl) (fun _ _ _ h=>h) (Or.inl ⟨by rfl,?hz2⟩) ?rz2
                case hz2=>(intro w;go_simp;try with_reducible rfl)
                try simp only [Act.put,List.setIfInBounds_toArray,List.set_cons_zero,List.set_cons_succ]
                refine wpAny_take (i:=4) (v:=?vz4) rfl (by kernel_rfl) (by kernel_rfl) (by kernel_rfl) (fun _ _ _ h=>h) (Or.inl ⟨by rfl,?hz4⟩) ?rz4
                case hz4=>(intro w;go_simp;try with_reducible rfl)
                try simp only [Act.put,List.setIfInBounds_toArray,List.set_cons_zero,List.set_cons_succ]
                refine wpAny_take (i:=6) (v:=?vz6) rfl (by kernel_rfl) (by kernel_rfl) (by kernel_rfl) (fun _ _ _ h=>h) (Or.inl ⟨by rfl,?hz6⟩) ?rz6
                case hz6=>(intro w;go_simp;try with_reducible rfl)
                try simp only [Act.put,List.setIfInBounds_toArray,List.set_cons_zero,List.set_cons_succ]
                have HS:(fun V:World=>V.cell? ⟨A,2,none⟩ = some vz) W4.drew:=by have h:=cell_at HI4.out.drew.box 2;simpa using h
                refine Fst.any_of (late:=fun k=>[12].contains k) (S:=(fun V:World=>V.cell? ⟨A,2,none⟩ = some vz)) _ _ _ _ ?_
                refine Fst.take (ls:=[12]) (i:=1) (v:=?vz1) rfl (by kernel_rfl) (by kernel_rfl) (by kernel_rfl) (by kernel_rfl) (by kernel_rfl) (fun _ _ _ h=>h) (Or.inl ⟨by rfl,?hz1⟩) HS ?rz1
                case hz1=>(intro V s5;go_simp;try with_reducible rfl)
                try simp only [Act.put,List.setIfInBounds_toArray,List.set_cons_zero,List.set_cons_succ]
                refine Fst.one (late:=fun k=>[12].contains k) (i:=3) (by kernel_rfl) rfl (fun K hK=>?_)
                go_simp
                refine (rpart_any v 0 6 _ HV.out (by decide) (by decide)).mono ?_
                rintro e w' ⟨rfl,rfl⟩
                (try go_wp2_with fail)
                refine hK _ _ HS ?_
                clear hK K
                try simp only [Act.put,List.setIfInBounds_toArray,List.set_cons_zero,List.set_cons_succ]
                refine Fst.one (late:=fun k=>[12].contains k) (i:=5) (by kernel_rfl) rfl (fun K hK=>?_)
                go_simp
                refine (rpart_any v 6 6 _ HV.out (by decide) (by decide)).mono ?_
                rintro e w' ⟨rfl,rfl⟩
                (try go_wp2_with fail)
                refine hK _ _ HS ?_
                clear hK K
                try simp only [Act.put,List.setIfInBounds_toArray,List.set_cons_zero,List.set_cons_succ]
                refine Fst.one (late:=fun k=>[12].contains k) (i:=7) (by kernel_rfl) rfl (fun K hK=>?_)
                go_simp
                refine (prest_any v 12 _).mono ?_
                rintro e w' ⟨rfl,rfl⟩
                (try go_wp2_with fail)
                refine hK _ _ HS ?_
                clear hK K
                try simp only [Act.put,List.setIfInBounds_toArray,List.set_cons_zero,List.set_cons_succ]
                refine Fst.take (ls:=[12]) (i:=8) (v:=?vz8) rfl (by kernel_rfl) (by kernel_rfl) (by kernel_rfl) (by kernel_rfl) (by kernel_rfl) (fun _ _ _ h=>h) (Or.inl ⟨by rfl,?hz8⟩) HS ?rz8
                case hz8=>(intro V s5;go_simp;try with_reducible rfl)
                try simp only [Act.put,List.setIfInBounds_toArray,List.set_cons_zero,List.set_cons_succ]
                clear HS
                refine Fst.one (late:=fun k=>[12].contains k) (i:=9) (by kernel_rfl) rfl (fun K hK=>?_)
                go_simp
                (try go_wp2_with fail)
                obtain ⟨W6,hW6⟩:∃ V,V = (W4.alloc (.cells #[.int .i64 (Sh.pt v 0 6),.int .i64 (Sh.pt v 6 6),.string (Sh.rs v 12)] 60)).drew:=⟨_,rfl⟩
                have HI6:Hid (RS A A x L vi vo vz w2 W6):=by show RS A A x L vi vo vz w2 W6;rw [hW6];exact (HI4.out.up ((Below.refl _ _).alloc (Nat.le_refl _) _)).drew
                have HX6:Hid (W6.heap[W4.heap.size]? = some (.cells #[.int .i64 (Sh.pt v 0 6),.int .i64 (Sh.pt v 6 6),.string (Sh.rs v 12)] 60)):=by show _ = _;rw [hW6];exact heap_alloc_new W4 _
                rw [← hW6]
                have HS:(fun V:World=>V.cell? ⟨A,2,none⟩ = some vz) W6:=by have h:=cell_at HI6.out.box 2;simpa using h
                refine hK _ _ HS ?_
                clear hK K hW6
                try simp only [Act.put,List.setIfInBounds_toArray,List.set_cons_zero,List.set_cons_succ]
                clear HS
                refine Fst.one (late:=fun k=>[12].contains k) (i:=10) (by kernel_rfl) rfl (fun K hK=>?_)
                obtain ⟨i0,hi,hz0,hz1,hz2⟩:=info_parts Es.infoS
                refine step_row rfl _ _ _ rfl Es.ES (fun _=>True) A 60 i0 (.agg #[.int .i64 0,.int .i64 0,.string ⟨#[]⟩]) 32 Tryz.underlying25 hi hz0 hz1 hz2 rfl vz x.Z rfl HI6.out.rowZ _ [Sh.qZ v] rfl (at_sea (r:=Sh.qZ v) HX6.out) (by have:=HLN.out.2.2;unfold maxLen;simp;omega) (by have:=HLN.out.2.2;simp;omega) HI6.out.sz ?_
                intro v9 w9 g1 g2 _
                obtain ⟨a9,m9,c9,rfl⟩:∃ a m c,v9 = .slice a m c:=by rcases g1 with ⟨rfl,-⟩ | ⟨g,cap,cur,rfl,-⟩ <;> exact ⟨_,_,_,rfl⟩
                have HI7:=HI6.out.sea g1 g2
                have HI8:Hid (w9.heap[A]? = some (BSt vi vo vz x.dn)):=HI7.2
                have HI9:Hid (RS A A { x with Z:=x.Z ++ [Sh.qZ v] } L vi vo (.slice a9 m9 c9) w2 (w9.setCell ⟨A,2,none⟩ (.slice a9 m9 c9))):=HI7.1
                clear HI7
                have HS:(fun V:World=>V.cell? ⟨A,2,none⟩ = some vz) w9:=by have h:=cell_at HI8.out 2;simpa using h
                refine hK _ _ HS ?_
                clear hK K HI6 HX6
                try simp only [Act.put,List.setIfInBounds_toArray,List.set_cons_zero,List.set_cons_succ]
                refine Fst.take (ls:=[12]) (i:=11) (v:=?vz11) rfl (by kernel_rfl) (by kernel_rfl) (by kernel_rfl) (by kernel_rfl) (by kernel_rfl) (fun _ _ _ h=>h) (Or.inl ⟨by rfl,?hz11⟩) HS ?rz11
                case hz11=>(intro V s5;go_simp;try with_reducible rfl)
                try simp only [Act.put,List.setIfInBounds_toArray,List.set_cons_zero,List.set_cons_succ]
                refine Fst.rest (by kernel_rfl) ?_
                have f8:=fr_at HI8.out
                have q8:=cell_at HI8.out 2
                simp at q8
                clear HS HI8
                refine wpAny_ready (rs:=[12]) (by kernel_rfl) (by simp) ?_
                refine AllReady.cons rfl (fun K hK=>?_) AllReady.nil
                go_simp
                (try go_wp2_with fail)
                first | (refine hK _ _ ?_;clear hK K) | skip
                try simp only [Act.put,List.setIfInBounds_toArray,List.set_cons_zero,List.set_cons_succ]
                refine wpAny_done (by kernel_rfl) ?_ _
                clear q8 f8
                go_wp2
                go_roundw
                case rel=>exact ⟨k + 1,_,L,vi,vo,.slice a9 m9 c9,by omega,by go_num,HI9,by show _ = _;rw [HNX.out];unfold Sh.qtS;simp⟩
                case measure=>simp [intOf];omega
              · have t4 : (tag == 4) = false := by simp [e4]
                have HNN:Hid (Sh.qtS x (tag,v) = x):=by show Sh.qtS x (tag,v) = x;unfold Sh.qtS;rw [if_neg e1,if_neg e2,if_neg e3,if_neg e4]
                have HE2:Hid (x = (l.take (k + 1)).foldl Sh.qtS Sh.st0):=by show _ = _;rw [HNX.out,HNN.out]
                clear e1 e2 e3 e4 HNX HNN HE
                go_wp2
                go_roundw
                case rel=>exact ⟨k + 1,x,L,vi,vo,vz,by omega,by go_num,by rw [← hW4];exact HI4.out,HE2⟩
                case measure=>simp [intOf];omega
      · obtain rfl : k = n := by omega
        have HXS:Hid (Sh.qS s = x):=by
          show _ = _
          unfold Sh.qS
          rw [HL.out,HE.out,List.take_of_length_le (by rw [HN.out];exact Nat.le_refl _)]
        have HAA:Hid (A2 < A):=by show A2 < A;rw [HA.out];exact (Array.getElem?_eq_some_iff.1 HT2.out).1
        have HU:Hid (US A x L vi vo vz wr):=HI.out.us
        obtain ⟨⟨ia,im,ic,rfl⟩,⟨oa,om,oc,rfl⟩,za,zm,zc,rfl⟩:=HU.out.slices
        have HT:Hid (wr.heap[A2]? = some BS0):=(HI.out.bl.block _ HAA.out).trans HT2.out
        have HX2:Hid (wr.heap[A]? = some (BSt (.slice ia im ic) (.slice oa om oc) (.slice za zm zc) x.dn)):=HI.out.box
        have HB:Hid (Below w.heap.size w wr):=HB2.out.trans (HI.out.bl.mono (by rw [HA.out];exact HB2.out.size))
        have b0:=cell_at HX2.out 0
        have b1:=cell_at HX2.out 1
        have b2:=cell_at HX2.out 2
        have b3:=cell_at HX2.out 3
        simp at b0 b1 b2 b3
        clear HI HE
        go_wp2_with fail
        clear b0 b1 b2 b3
        have HTB:=HU.out.tab (by rw [← HXS.out];exact Sh.qS_ok s)
        refine (rpackS_any _ _ _ _ L x.O x.Z _ HTB (HU.out.okN (by rw [← HXS.out];exact Sh.qS_ok s)) HU.out.opens HU.out.seats (fun _=>by rw [HU.out.eq];exact (by rw [← HXS.out];exact HSM.out))).mono ?_
        rintro e w3 ⟨rfl,hb⟩
        have HU3:Hid (US A x L (.slice ia im ic) (.slice oa om oc) (.slice za zm zc) w3):=HU.out.up hb
        have HT3:Hid (w3.heap[A2]? = some BS0):=(hb.block _ (Array.getElem?_eq_some_iff.1 HT.out).1).trans HT.out
        have HX3:Hid (w3.heap[A]? = some (BSt (.slice ia im ic) (.slice oa om oc) (.slice za zm zc) x.dn)):=(hb.block _ (Array.getElem?_eq_some_iff.1 HX2.out).1).trans HX2.out
        have HB3:Hid (Below w.heap.size w w3):=HB.out.trans (hb.mono HB.out.size)
        rw [HU.out.eq]
        obtain ⟨q,hq⟩:∃ q,Sh.isS x s = q:=⟨_,rfl⟩
        clear hb HTB
        cases q with
        | true =>
          obtain ⟨h1,h2⟩:=(Sh.isS_iff x s).1 hq
          have HRES:Hid (Sh.unpS s = x/\Sh.unpE s = 0):=Sh.unp_yes (.inr HXS.out.symm) hq
          rw [h1,h2]
          have t1:(s.toList == s.toList) = true:=beq_self_eq_true _
          have b0:=cell_at HX3.out 0
          have b1:=cell_at HX3.out 1
          have b2:=cell_at HX3.out 2
          have b3:=cell_at HX3.out 3
          simp at b0 b1 b2 b3
          clear h1 h2 hq
          have f0:=fr_at HT3.out
          have c0:=cell_at HT3.out 0
          have c1:=cell_at HT3.out 1
          have c2:=cell_at HT3.out 2
          have c3:=cell_at HT3.out 3
          simp at c0 c1 c2 c3
          have HF:Hid ((put4 w3 A2 (.slice ia im ic) (.slice oa om oc) (.slice za zm zc) (.int .i64 x.dn)).heap[A2]? = some (.cells #[.slice ia im ic,.slice oa om oc,.slice za zm zc,.int .i64 x.dn] 27)):=put4_at HT3.out
          have HBF:Hid (Below w.heap.size w (put4 w3 A2 (.slice ia im ic) (.slice oa om oc) (.slice za zm zc) (.int .i64 x.dn))):=HB3.out.grown (put4_gr _ _ _ _ _ _) HB3.out.size (fun j hj=>by cases hj;exact HAw.out)
          have HUF:Hid (US w.heap.size x L (.slice ia im ic) (.slice oa om oc) (.slice za zm zc) (put4 w3 A2 (.slice ia im ic) (.slice oa om oc) (.slice za zm zc) (.int .i64 x.dn))):=(HU3.out.kept (put4_gr _ _ _ _ _ _) (HAA.out)).low (Nat.le_of_lt (Nat.lt_of_le_of_lt HAw.out HAA.out))
          go_wp2
          have HE9:Hid (((((w3.setCell ⟨A2,0,none⟩ (.slice ia im ic)).setCell ⟨A2,1,none⟩ (.slice oa om oc)).setCell ⟨A2,2,none⟩ (.slice za zm zc)).setCell ⟨A2,3,none⟩ (.int .i64 x.dn)) = put4 w3 A2 (.slice ia im ic) (.slice oa om oc) (.slice za zm zc) (.int .i64 x.dn)):=rfl
          rw [HE9.out]
          generalize put4 w3 A2 (.slice ia im ic) (.slice oa om oc) (.slice za zm zc) (.int .i64 x.dn) = WF at HF HBF HUF HE9 ⊢
          clear HE9
          have d0:=cell_at HF.out 0
          have d1:=cell_at HF.out 1
          have d2:=cell_at HF.out 2
          have d3:=cell_at HF.out 3
          simp at d0 d1 d2 d3
          refine bodyPost_ret (v:=.tuple #[.agg #[.slice ia im ic,.slice oa om oc,.slice za zm zc,.int .i64 x.dn],.int .i64 0]) (by simp [results,Tryz.results7,go_sem,d0,d1,d2,d3]) rfl ⟨L,.slice ia im ic,.slice oa om oc,.slice za zm zc,?_,?_,HBF.out⟩
          · rw [HRES.out.1,HRES.out.2]
          · rw [HRES.out.1]
            exact HUF.out
        | false =>
          have HRES:Hid (Sh.unpS s = Sh.st0/\Sh.unpE s = 4):=Sh.unp_no (.inr HXS.out.symm) hq
          have hq':¬ (Sh.pkE x.L x.O x.Z x.dn = 0/\Sh.pkO x.L x.O x.Z x.dn = s):=fun h=>by rw [(Sh.isS_iff x s).2 h] at hq;cases hq
          clear hq HX3
          generalize Sh.pkE x.L x.O x.Z x.dn = pe at *
          generalize Sh.pkO x.L x.O x.Z x.dn = po at *
          by_cases h0:pe = 0
          · have h3 : po ≠ s := fun h => hq' ⟨h0, h⟩
            have t1:=Ks.Rs.str_ne h3
            subst h0
            clear hq' h3
            have f0:=fr_at HT3.out
            have c0:=cell_at HT3.out 0
            have c1:=cell_at HT3.out 1
            have c2:=cell_at HT3.out 2
            have c3:=cell_at HT3.out 3
            simp at c0 c1 c2 c3
            have HF:Hid ((put4 w3 A2 (.slice none 0 0) (.slice none 0 0) (.slice none 0 0) (.int .i64 0)).heap[A2]? = some (.cells #[.slice none 0 0,.slice none 0 0,.slice none 0 0,.int .i64 0] 27)):=put4_at HT3.out
            have HBF:Hid (Below w.heap.size w (put4 w3 A2 (.slice none 0 0) (.slice none 0 0) (.slice none 0 0) (.int .i64 0))):=HB3.out.grown (put4_gr _ _ _ _ _ _) HB3.out.size (fun j hj=>by cases hj;exact HAw.out)
            go_wp2
            have HE9:Hid (((((w3.setCell ⟨A2,0,none⟩ (.slice none 0 0)).setCell ⟨A2,1,none⟩ (.slice none 0 0)).setCell ⟨A2,2,none⟩ (.slice none 0 0)).setCell ⟨A2,3,none⟩ (.int .i64 0)) = put4 w3 A2 (.slice none 0 0) (.slice none 0 0) (.slice none 0 0) (.int .i64 0)):=rfl
            rw [HE9.out]
            generalize put4 w3 A2 (.slice none 0 0) (.slice none 0 0) (.slice none 0 0) (.int .i64 0) = WF at HF HBF HE9 ⊢
            clear HE9
            have d0:=cell_at HF.out 0
            have d1:=cell_at HF.out 1
            have d2:=cell_at HF.out 2
            have d3:=cell_at HF.out 3
            simp at d0 d1 d2 d3
            refine bodyPost_ret (v:=.tuple #[.agg #[.slice none 0 0,.slice none 0 0,.slice none 0 0,.int .i64 0],.int .i64 4]) (by simp [results,Tryz.results7,go_sem,d0,d1,d2,d3]) rfl ⟨[],.slice none 0 0,.slice none 0 0,.slice none 0 0,?_,?_,HBF.out⟩
            · rw [HRES.out.1,HRES.out.2];rfl
            · rw [HRES.out.1]
              exact US.none _ _
          · have t2 : (pe != 0) = true := by simp [h0]
            clear hq' h0
            have f0:=fr_at HT3.out
            have c0:=cell_at HT3.out 0
            have c1:=cell_at HT3.out 1
            have c2:=cell_at HT3.out 2
            have c3:=cell_at HT3.out 3
            simp at c0 c1 c2 c3
            have HF:Hid ((put4 w3 A2 (.slice none 0 0) (.slice none 0 0) (.slice none 0 0) (.int .i64 0)).heap[A2]? = some (.cells #[.slice none 0 0,.slice none 0 0,.slice none 0 0,.int .i64 0] 27)):=put4_at HT3.out
            have HBF:Hid (Below w.heap.size w (put4 w3 A2 (.slice none 0 0) (.slice none 0 0) (.slice none 0 0) (.int .i64 0))):=HB3.out.grown (put4_gr _ _ _ _ _ _) HB3.out.size (fun j hj=>by cases hj;exact HAw.out)
            go_wp2
            have HE9:Hid (((((w3.setCell ⟨A2,0,none⟩ (.slice none 0 0)).setCell ⟨A2,1,none⟩ (.slice none 0 0)).setCell ⟨A2,2,none⟩ (.slice none 0 0)).setCell ⟨A2,3,none⟩ (.int .i64 0)) = put4 w3 A2 (.slice none 0 0) (.slice none 0 0) (.slice none 0 0) (.int .i64 0)):=rfl
            rw [HE9.out]
            generalize put4 w3 A2 (.slice none 0 0) (.slice none 0 0) (.slice none 0 0) (.int .i64 0) = WF at HF HBF HE9 ⊢
            clear HE9
            have d0:=cell_at HF.out 0
            have d1:=cell_at HF.out 1
            have d2:=cell_at HF.out 2
            have d3:=cell_at HF.out 3
            simp at d0 d1 d2 d3
            refine bodyPost_ret (v:=.tuple #[.agg #[.slice none 0 0,.slice none 0 0,.slice none 0 0,.int .i64 0],.int .i64 4]) (by simp [results,Tryz.results7,go_sem,d0,d1,d2,d3]) rfl ⟨[],.slice none 0 0,.slice none 0 0,.slice none 0 0,?_,?_,HBF.out⟩
            · rw [HRES.out.1,HRES.out.2];rfl
            · rw [HRES.out.1]
              exact US.none _ _
  · have t1 : (er != 0) = true := by simp [he0]
    have HRES:Hid (Sh.unpS s = Sh.st0/\Sh.unpE s = 4):=Sh.unp_bad (by rw [HER.out];exact he0)
    have HT3:Hid (w2.heap[A2]? = some BS0):=HT2.out
    have HB3:Hid (Below w.heap.size w w2):=HB2.out
    clear he0
    have f0:=fr_at HT3.out
    have c0:=cell_at HT3.out 0
    have c1:=cell_at HT3.out 1
    have c2:=cell_at HT3.out 2
    have c3:=cell_at HT3.out 3
    simp at c0 c1 c2 c3
    have HF:Hid ((put4 w2 A2 (.slice none 0 0) (.slice none 0 0) (.slice none 0 0) (.int .i64 0)).heap[A2]? = some (.cells #[.slice none 0 0,.slice none 0 0,.slice none 0 0,.int .i64 0] 27)):=put4_at HT3.out
    have HBF:Hid (Below w.heap.size w (put4 w2 A2 (.slice none 0 0) (.slice none 0 0) (.slice none 0 0) (.int .i64 0))):=HB3.out.grown (put4_gr _ _ _ _ _ _) HB3.out.size (fun j hj=>by cases hj;exact HAw.out)
    go_wp2
    have HE9:Hid (((((w2.setCell ⟨A2,0,none⟩ (.slice none 0 0)).setCell ⟨A2,1,none⟩ (.slice none 0 0)).setCell ⟨A2,2,none⟩ (.slice none 0 0)).setCell ⟨A2,3,none⟩ (.int .i64 0)) = put4 w2 A2 (.slice none 0 0) (.slice none 0 0) (.slice none 0 0) (.int .i64 0)):=rfl
    rw [HE9.out]
    generalize put4 w2 A2 (.slice none 0 0) (.slice none 0 0) (.slice none 0 0) (.int .i64 0) = WF at HF HBF HE9 ⊢
    clear HE9
    have d0:=cell_at HF.out 0
    have d1:=cell_at HF.out 1
    have d2:=cell_at HF.out 2
    have d3:=cell_at HF.out 3
    simp at d0 d1 d2 d3
    refine bodyPost_ret (v:=.tuple #[.agg #[.slice none 0 0,.slice none 0 0,.slice none 0 0,.int .i64 0],.int .i64 4]) (by simp [results,Tryz.results7,go_sem,d0,d1,d2,d3]) rfl ⟨[],.slice none 0 0,.slice none 0 0,.slice none 0 0,?_,?_,HBF.out⟩
    · rw [HRES.out.1,HRES.out.2];rfl
    · rw [HRES.out.1]
      exact US.none _ _
theorem Sh.unp_okS (b:ByteArray):∀ y∈(Sh.unpS b).L,okI y/\∀ e∈y.ents,e.1.size<=maxLen:=fun y hy=>by
  unfold Sh.unpS at hy
  split at hy
  · exact Sh.rdS_ok b y hy
  · cases hy
set_option maxHeartbeats 4000000 in
theorem shUnpacks_any (b:ByteArray) (w:World):Calls Tryz.prog 3 #[.string b] w fun e w'=>e = .returned (.bool true)/\Below w.heap.size w w':=by
  by_cases hb:b.size<=30000
  · have hgt : ¬ (30000 : Int) < (b.size : Int) := by omega
    have HU:Hid (∀ V,Calls Tryz.prog 6 #[.string b] V fun e w'=>∃ L vi vo vz,e = .returned (.tuple #[.agg #[vi,vo,vz,.int .i64 (Sh.unpS b).dn],.int .i64 (Sh.unpE b)])/\US V.heap.size (Sh.unpS b) L vi vo vz w'/\Below V.heap.size V w'):=fun V=>shunp_any b V (by omega) (Sh.rdS_sm hb)
    have HV:Hid (∀ V,Calls Tryz.prog 7 #[.string b] V fun e w'=>∃ L vi vo vz,e = .returned (.tuple #[.agg #[vi,vo,vz,.int .i64 (Sh.unpS b).dn],.int .i64 (Sh.unpE b)])/\US V.heap.size (Sh.unpS b) L vi vo vz w'/\Below V.heap.size V w'):=fun V=>rstU_any b V (by omega) (Sh.qS_sm hb)
    have HOK:Hid (∀ y∈(Sh.unpS b).L,okI y/\∀ e∈y.ents,e.1.size<=maxLen):=Sh.unp_okS b
    generalize Sh.unpS b = x at HU HV HOK
    generalize Sh.unpE b = q at HU HV
    clear hb
    obtain ⟨xL,xO,xZ,dn⟩:=x
    go_enter Tryz.func3,Tryz.ntmps3
    go_wp2_with fail
    refine (HU.out _).mono ?_
    rintro e w1 ⟨L1,vi,vo,vz,rfl,hu1,hb1⟩
    obtain ⟨⟨ia,im,ic,rfl⟩,⟨oa,om,oc,rfl⟩,za,zm,zc,rfl⟩:=hu1.slices
    obtain ⟨W1,hW1⟩:∃ V,V = w1.alloc (BSt (.slice ia im ic) (.slice oa om oc) (.slice za zm zc) dn):=⟨_,rfl⟩
    obtain ⟨A1,hA1⟩:∃ n,n = w1.heap.size:=⟨_,rfl⟩
    have HS1:Hid (US w.heap.size ⟨xL,xO,xZ,dn⟩ L1 (.slice ia im ic) (.slice oa om oc) (.slice za zm zc) W1):=by show US _ _ _ _ _ _ _;rw [hW1];exact hu1.up ((Below.refl _ _).alloc (Nat.le_refl _) _)
    have HX1:Hid (W1.heap[A1]? = some (BSt (.slice ia im ic) (.slice oa om oc) (.slice za zm zc) dn)):=by show _ = _;rw [hW1,hA1];exact heap_alloc_new _ _
    have HB1:Hid (Below w.heap.size w W1):=by show Below _ _ _;rw [hW1];exact hb1.alloc hb1.size _
    clear hu1 hb1
    go_wp2_with fail
    rw [← hW1,← hA1]
    clear hW1 hA1
    refine (HV.out _).mono ?_
    rintro e w2 ⟨L2,ui,uo,uz,rfl,hu2,hb2⟩
    obtain ⟨⟨ja,jm,jc,rfl⟩,⟨pa,pm,pc,rfl⟩,ya,ym,yc,rfl⟩:=hu2.slices
    obtain ⟨W2,hW2⟩:∃ V,V = w2.alloc (BSt (.slice ja jm jc) (.slice pa pm pc) (.slice ya ym yc) dn):=⟨_,rfl⟩
    obtain ⟨A2,hA2⟩:∃ n,n = w2.heap.size:=⟨_,rfl⟩
    have hb12:Below W1.heap.size W1 W2:=by rw [hW2];exact hb2.alloc hb2.size _
    have HS2:Hid (US W1.heap.size ⟨xL,xO,xZ,dn⟩ L2 (.slice ja jm jc) (.slice pa pm pc) (.slice ya ym yc) W2):=by show US _ _ _ _ _ _ _;rw [hW2];exact hu2.up ((Below.refl _ _).alloc (Nat.le_refl _) _)
    have HX2:Hid (W2.heap[A2]? = some (BSt (.slice ja jm jc) (.slice pa pm pc) (.slice ya ym yc) dn)):=by show _ = _;rw [hW2,hA2];exact heap_alloc_new _ _
    have HY2:Hid (W2.heap[A1]? = some (BSt (.slice ia im ic) (.slice oa om oc) (.slice za zm zc) dn)):=(hb12.block _ (Array.getElem?_eq_some_iff.1 HX1.out).1).trans HX1.out
    have HT2:Hid (US w.heap.size ⟨xL,xO,xZ,dn⟩ L1 (.slice ia im ic) (.slice oa om oc) (.slice za zm zc) W2):=HS1.out.up hb12
    have HB2:Hid (Below w.heap.size w W2):=HB1.out.trans (hb12.mono HB1.out.size)
    clear hu2 hb2 hb12 HS1 HX1 HU HV
    obtain ⟨x0,x1,x2,x3⟩:=st_of HX2.out
    obtain ⟨y0,y1,y2,y3⟩:=st_of HY2.out
    rw [hW2] at x0 x1 x2 x3 y0 y1 y2 y3
    rw [hA2] at x0 x1 x2 x3
    have t1:(q == q) = true:=beq_self_eq_true _
    go_wp2_with fail
    rw [← hW2]
    clear hW2 hA2
    refine (state_same _ _ _ _ _ _ dn L1 L2 xO xZ _ (HT2.out.tab HOK.out) (HS2.out.tab HOK.out) (by rw [HT2.out.eq,HS2.out.eq]) HT2.out.opens HS2.out.opens HT2.out.seats HS2.out.seats).mono ?_
    rintro e w3 ⟨rfl,hb3⟩
    have HB3:Hid (Below w.heap.size w w3):=HB2.out.trans (hb3.mono HB2.out.size)
    clear hb3 x0 x1 x2 x3 y0 y1 y2 y3
    go_wp2_with fail
    refine (empty_any _).mono ?_
    rintro e w4 ⟨rfl,hb4⟩
    go_wp2
    go_ret
    exact ⟨rfl,HB3.out.trans (hb4.mono HB3.out.size)⟩
  · have hgt : (30000 : Int) < (b.size : Int) := by omega
    clear hb
    go_enter Tryz.func3,Tryz.ntmps3
    go_wp2_with fail
    refine (empty_any _).mono ?_
    rintro e w4 ⟨rfl,hb4⟩
    go_wp2
    go_ret
    exact ⟨rfl,hb4⟩
end Go.Proofs.YtggoccfddnpelaaGreat
