import Derived.Test.YtoifalcpfnacnaaGreatDoorBe8
namespace Go.Proofs.YtoifalcpfnacnaaGreatDoor
open Go.RowKit
def sourceCells (s:ByteArray) (at_ g n step:Nat):List Value:=[.string s,.int .i64 ((at_:Nat):Int),.slice (some ⟨g,0,none⟩) n n,.int .i64 ((step:Nat):Int)]
def srcGive (plan:List Int) (size at_ step n:Nat):Option (Nat × Bool):=
 match sinkN plan step n with
 | none=>none
 | some m=>if m=0 then some (0,false) else if at_=size then some (0,true) else some (if size-at_<m then size-at_ else m,false)
def srcText (s:ByteArray) (at_ m:Nat):ByteArray:=if m=0 then ⟨#[]⟩ else s.extract at_ (at_+m)
def srcAns (s:ByteArray) (at_:Nat):Option (Nat × Bool)→Value
 | none=>.tuple #[.string ⟨#[]⟩,.bool false,.int .i64 17]
 | some (m,e)=>.tuple #[.string (srcText s at_ m),.bool e,.int .i64 0]
theorem src_nums (size at_ m:Nat) (h:at_+m≤size) (hs:size<1125899906842624):∃ r1 a1:Nat,r1=size-at_∧a1=at_+m∧IntKind.i64.wrap ((size:Int)-(at_:Int))=(r1:Int)∧wrap64 ((size:Int)-(at_:Int))=(r1:Int)∧IntKind.i64.wrap ((at_:Int)+(m:Int))=(a1:Int)∧wrap64 ((at_:Int)+(m:Int))=(a1:Int)∧(at_:Int)≤(a1:Int)∧(a1:Int)≤(size:Int):=
 ⟨size-at_,at_+m,rfl,rfl,(IntWalk.i64_in _ (by omega)).trans (by omega),(IntWalk.wrap64_in _ (by omega)).trans (by omega),(IntWalk.i64_in _ (by omega)).trans (by omega),(IntWalk.wrap64_in _ (by omega)).trans (by omega),by omega,by omega⟩
theorem step_nums (step:Nat) (h:step<1125899906842624):∃ q:Nat,q=step+1∧IntKind.i64.wrap ((step:Int)+1)=(q:Int)∧wrap64 ((step:Int)+1)=(q:Int):=
 ⟨step+1,rfl,(IntWalk.i64_in _ (by omega)).trans (by omega),(IntWalk.wrap64_in _ (by omega)).trans (by omega)⟩
theorem nat_lt {a b:Nat} (h:a<b):(a:Int)<(b:Int):=by omega
theorem nat_nlt {a b:Nat} (h:¬ a<b):¬ (a:Int)<(b:Int):=by omega
theorem nat_pos {a:Nat} (h:0<a):¬ (a:Int)≤0:=by omega
theorem nat_nneg (a:Nat):¬ (a:Int)<0:=by omega
theorem nat_beq {a b:Nat} (h:a=b):((a:Int)==(b:Int))=true:=beq_iff_eq.2 (by omega)
theorem nat_nbeq {a b:Nat} (h:¬ a=b):((a:Int)==(b:Int))=false:=beq_eq_false_iff_ne.2 (by omega)
def srcAt (at_:Nat):Option (Nat × Bool)→Nat
 | none=>at_
 | some (m,_)=>at_+m
set_option maxHeartbeats 1600000 in
theorem src_beyond_end (b g:Nat) (s:ByteArray) (plan:List Int) (at_ step n:Nat) (w:World) (hb:Blk w b 114 (sourceCells s at_ g plan.length step)) (hg:Blk w g 3 (intV plan)) (hs:s.size<1125899906842624) (hat:at_≤s.size) (hst:step<1125899906842624) (hn:0<n) (hn2:n<1125899906842624) (hp:¬ step<plan.length) (he:at_=s.size):
  Calls Tryz.prog 94 #[.pointer (some ⟨b,0,none⟩),.int .i64 (n:Nat)] w fun e w'=>
   e = .returned (srcAns s at_ (srcGive plan s.size at_ step n))∧Blk w' b 114 (sourceCells s (srcAt at_ (srcGive plan s.size at_ step n)) g plan.length (sinkAt plan step))∧w.grownBy w' (some b):=by
 have hv:srcGive plan s.size at_ step n=some (0,true):=by
  unfold srcGive sinkN
  rw[if_neg hp]
  show (if n=0 then _ else _)=_
  rw[if_neg (Nat.ne_of_gt hn),if_pos he]
 rw[hv]
 have hu:=And.intro hg (And.intro hs (And.intro hat (And.intro hst (And.intro hn hn2))))
 have j5:=nat_beq he
 have c0:w.cell? ⟨b,0,none⟩=some (.string s):=hb.cell rfl
 have c1:w.cell? ⟨b,1,none⟩=some (.int .i64 ((at_:Nat):Int)):=hb.cell rfl
 have c2:w.cell? ⟨b,2,none⟩=some (.slice (some ⟨g,0,none⟩) plan.length plan.length):=hb.cell rfl
 have c3:w.cell? ⟨b,3,none⟩=some (.int .i64 ((step:Nat):Int)):=hb.cell rfl
 have hf:=hb.frozen
 have j1:=nat_nlt hp
 rw[show sinkAt plan step=step by unfold sinkAt;rw[if_neg hp]]
 have j4:=nat_pos hn
 have HB:=hide (hb)
 have HG:=hide (World.grownBy.refl w (some b))
 show Calls _ _ _ _ fun e w'=>e = .returned (.tuple #[.string ⟨#[]⟩,.bool true,.int .i64 0])∧Blk w' b _ (sourceCells s at_ g plan.length _)∧_
 clear hv hu hb hg hs hat hst hn2 hp he
 go_enter Tryz.func94,Tryz.ntmps94
 go_wp2
 go_region
 go_wp2
 go_region
 go_wp2
 refine bodyPost_ret (results_tmp3 rfl _ _ _) rfl ?_
 exact ⟨rfl,HB.out.drewN 2,HG.out.drewN 2⟩
set_option maxHeartbeats 1600000 in
theorem src_beyond_rest (b g:Nat) (s:ByteArray) (plan:List Int) (at_ step n:Nat) (w:World) (hb:Blk w b 114 (sourceCells s at_ g plan.length step)) (hg:Blk w g 3 (intV plan)) (hs:s.size<1125899906842624) (hat:at_≤s.size) (hst:step<1125899906842624) (hn:0<n) (hn2:n<1125899906842624) (hp:¬ step<plan.length) (he:¬ at_=s.size) (hrr:s.size-at_<n):
  Calls Tryz.prog 94 #[.pointer (some ⟨b,0,none⟩),.int .i64 (n:Nat)] w fun e w'=>
   e = .returned (srcAns s at_ (srcGive plan s.size at_ step n))∧Blk w' b 114 (sourceCells s (srcAt at_ (srcGive plan s.size at_ step n)) g plan.length (sinkAt plan step))∧w.grownBy w' (some b):=by
 have hz0:¬ (s.size-at_)=0:=by omega
 have hv:srcGive plan s.size at_ step n=some (s.size-at_,false):=by
  unfold srcGive sinkN
  rw[if_neg hp]
  show (if n=0 then _ else _)=_
  rw[if_neg (Nat.ne_of_gt hn),if_neg he,if_pos hrr]
 rw[hv]
 have hu:=And.intro hg (And.intro hs (And.intro hat (And.intro hst (And.intro hn hn2))))
 have j5:=nat_nbeq he
 obtain ⟨r1,a1,hr1,ha1,t3,t4,t5,t6,j7,j8⟩:=src_nums s.size at_ (s.size-at_) (by omega) hs
 rw[←hr1] at t5 t6
 have j6:(r1:Int)<(n:Int):=(nat_lt (by rw[hr1];exact hrr))
 have c0:w.cell? ⟨b,0,none⟩=some (.string s):=hb.cell rfl
 have c1:w.cell? ⟨b,1,none⟩=some (.int .i64 ((at_:Nat):Int)):=hb.cell rfl
 have c2:w.cell? ⟨b,2,none⟩=some (.slice (some ⟨g,0,none⟩) plan.length plan.length):=hb.cell rfl
 have c3:w.cell? ⟨b,3,none⟩=some (.int .i64 ((step:Nat):Int)):=hb.cell rfl
 have hf:=hb.frozen
 have j1:=nat_nlt hp
 rw[show sinkAt plan step=step by unfold sinkAt;rw[if_neg hp]]
 have j4:=nat_pos hn
 have HB:=hide ((hb).setCell_same 1 (.int .i64 ((a1:Nat):Int)))
 have HG:=hide ((World.grownBy.refl w (some b)).setCell 1 (.int .i64 ((a1:Nat):Int)))
 have hst2:srcText s at_ (s.size-at_)=s.extract at_ a1:=by unfold srcText;rw[if_neg hz0,ha1]
 have hsa2:srcAt at_ (some (s.size-at_,false))=a1:=by show at_+(s.size-at_)=a1;rw[ha1]
 rw[hsa2]
 show Calls _ _ _ _ fun e w'=>e = .returned (.tuple #[.string (srcText s at_ (s.size-at_)),.bool false,.int .i64 0])∧_
 rw[hst2]
 clear hst2 hsa2
 clear hv hu hb hg hs hat hst hn2 hz0 hr1 ha1 hp he hrr
 go_enter Tryz.func94,Tryz.ntmps94
 go_wp2
 go_region
 go_wp2
 go_region
 go_wp2
 go_region
 go_wp2
 go_region
 go_wp2
 go_region
 go_wp2
 refine bodyPost_ret (results_tmp3 rfl _ _ _) rfl ?_
 exact ⟨rfl,HB.out.drewN 5,HG.out.drewN 5⟩
set_option maxHeartbeats 1600000 in
theorem src_beyond_some (b g:Nat) (s:ByteArray) (plan:List Int) (at_ step n:Nat) (w:World) (hb:Blk w b 114 (sourceCells s at_ g plan.length step)) (hg:Blk w g 3 (intV plan)) (hs:s.size<1125899906842624) (hat:at_≤s.size) (hst:step<1125899906842624) (hn:0<n) (hn2:n<1125899906842624) (hp:¬ step<plan.length) (he:¬ at_=s.size) (hrr:¬ s.size-at_<n):
  Calls Tryz.prog 94 #[.pointer (some ⟨b,0,none⟩),.int .i64 (n:Nat)] w fun e w'=>
   e = .returned (srcAns s at_ (srcGive plan s.size at_ step n))∧Blk w' b 114 (sourceCells s (srcAt at_ (srcGive plan s.size at_ step n)) g plan.length (sinkAt plan step))∧w.grownBy w' (some b):=by
 have hz0:¬ (n)=0:=by omega
 have hv:srcGive plan s.size at_ step n=some (n,false):=by
  unfold srcGive sinkN
  rw[if_neg hp]
  show (if n=0 then _ else _)=_
  rw[if_neg (Nat.ne_of_gt hn),if_neg he,if_neg hrr]
 rw[hv]
 have hu:=And.intro hg (And.intro hs (And.intro hat (And.intro hst (And.intro hn hn2))))
 have j5:=nat_nbeq he
 obtain ⟨r1,a1,hr1,ha1,t3,t4,t5,t6,j7,j8⟩:=src_nums s.size at_ (n) (by omega) hs
 skip
 have j6:¬ (r1:Int)<(n:Int):=(nat_nlt (by rw[hr1];exact hrr))
 have c0:w.cell? ⟨b,0,none⟩=some (.string s):=hb.cell rfl
 have c1:w.cell? ⟨b,1,none⟩=some (.int .i64 ((at_:Nat):Int)):=hb.cell rfl
 have c2:w.cell? ⟨b,2,none⟩=some (.slice (some ⟨g,0,none⟩) plan.length plan.length):=hb.cell rfl
 have c3:w.cell? ⟨b,3,none⟩=some (.int .i64 ((step:Nat):Int)):=hb.cell rfl
 have hf:=hb.frozen
 have j1:=nat_nlt hp
 rw[show sinkAt plan step=step by unfold sinkAt;rw[if_neg hp]]
 have j4:=nat_pos hn
 have HB:=hide ((hb).setCell_same 1 (.int .i64 ((a1:Nat):Int)))
 have HG:=hide ((World.grownBy.refl w (some b)).setCell 1 (.int .i64 ((a1:Nat):Int)))
 have hst2:srcText s at_ (n)=s.extract at_ a1:=by unfold srcText;rw[if_neg hz0,ha1]
 have hsa2:srcAt at_ (some (n,false))=a1:=by show at_+(n)=a1;rw[ha1]
 rw[hsa2]
 show Calls _ _ _ _ fun e w'=>e = .returned (.tuple #[.string (srcText s at_ (n)),.bool false,.int .i64 0])∧_
 rw[hst2]
 clear hst2 hsa2
 clear hv hu hb hg hs hat hst hn2 hz0 hr1 ha1 hp he hrr
 go_enter Tryz.func94,Tryz.ntmps94
 go_wp2
 go_region
 go_wp2
 go_region
 go_wp2
 go_region
 go_wp2
 go_region
 go_wp2
 refine bodyPost_ret (results_tmp3 rfl _ _ _) rfl ?_
 exact ⟨rfl,HB.out.drewN 4,HG.out.drewN 4⟩
set_option maxHeartbeats 1600000 in
theorem src_less_end (b g:Nat) (s:ByteArray) (plan:List Int) (at_ step n:Nat) (w:World) (hb:Blk w b 114 (sourceCells s at_ g plan.length step)) (hg:Blk w g 3 (intV plan)) (hs:s.size<1125899906842624) (hat:at_≤s.size) (hst:step<1125899906842624) (hn:0<n) (hn2:n<1125899906842624) (k:Nat) (hp:step<plan.length) (hk:plan.getD step 0=(k:Int)) (hkn:k<n) (hk0:0<k) (he:at_=s.size):
  Calls Tryz.prog 94 #[.pointer (some ⟨b,0,none⟩),.int .i64 (n:Nat)] w fun e w'=>
   e = .returned (srcAns s at_ (srcGive plan s.size at_ step n))∧Blk w' b 114 (sourceCells s (srcAt at_ (srcGive plan s.size at_ step n)) g plan.length (sinkAt plan step))∧w.grownBy w' (some b):=by
 have hv:srcGive plan s.size at_ step n=some (0,true):=by
  unfold srcGive sinkN
  rw[if_pos hp,hk,if_neg (nat_nneg k),if_pos (nat_lt hkn),Int.toNat_natCast]
  show (if k=0 then _ else _)=_
  rw[if_neg (Nat.ne_of_gt hk0),if_pos he]
 rw[hv]
 have hu:=And.intro hg (And.intro hs (And.intro hat (And.intro hst (And.intro hn hn2))))
 have j5:=nat_beq he
 have c0:w.cell? ⟨b,0,none⟩=some (.string s):=hb.cell rfl
 have c1:w.cell? ⟨b,1,none⟩=some (.int .i64 ((at_:Nat):Int)):=hb.cell rfl
 have c2:w.cell? ⟨b,2,none⟩=some (.slice (some ⟨g,0,none⟩) plan.length plan.length):=hb.cell rfl
 have c3:w.cell? ⟨b,3,none⟩=some (.int .i64 ((step:Nat):Int)):=hb.cell rfl
 have hf:=hb.frozen
 have cg:=hg.cell (intV_get plan step hp)
 have ne:g≠b:=by
  intro e
  subst e
  have h:=hb.symm.trans hg
  simp[sourceCells] at h
 obtain ⟨q,hq,t1,t2⟩:=step_nums step hst
 have j1:=nat_lt hp
 have hAT:sinkAt plan step=q:=by unfold sinkAt;rw[if_pos hp,hq]
 rw[hAT]
 clear hAT
 rw[hk] at cg
 have j2:=nat_lt hkn
 have j4:=nat_pos hk0
 have j9:=nat_nneg k
 clear hk
 have HB:=hide (hb.setCell_same 3 (.int .i64 ((q:Nat):Int)))
 have HG:=hide ((World.grownBy.refl w (some b)).setCell 3 (.int .i64 ((q:Nat):Int)))
 show Calls _ _ _ _ fun e w'=>e = .returned (.tuple #[.string ⟨#[]⟩,.bool true,.int .i64 0])∧Blk w' b _ (sourceCells s at_ g plan.length _)∧_
 clear hv hu hb hg hs hat hst hn2 hq hp hkn he hk0
 go_enter Tryz.func94,Tryz.ntmps94
 go_wp2
 go_region
 go_wp2
 go_region
 go_wp2
 go_region
 go_wp2
 refine bodyPost_ret (results_tmp3 rfl _ _ _) rfl ?_
 exact ⟨rfl,HB.out.drewN 3,HG.out.drewN 3⟩
set_option maxHeartbeats 1600000 in
theorem src_less_rest (b g:Nat) (s:ByteArray) (plan:List Int) (at_ step n:Nat) (w:World) (hb:Blk w b 114 (sourceCells s at_ g plan.length step)) (hg:Blk w g 3 (intV plan)) (hs:s.size<1125899906842624) (hat:at_≤s.size) (hst:step<1125899906842624) (hn:0<n) (hn2:n<1125899906842624) (k:Nat) (hp:step<plan.length) (hk:plan.getD step 0=(k:Int)) (hkn:k<n) (hk0:0<k) (he:¬ at_=s.size) (hrr:s.size-at_<k):
  Calls Tryz.prog 94 #[.pointer (some ⟨b,0,none⟩),.int .i64 (n:Nat)] w fun e w'=>
   e = .returned (srcAns s at_ (srcGive plan s.size at_ step n))∧Blk w' b 114 (sourceCells s (srcAt at_ (srcGive plan s.size at_ step n)) g plan.length (sinkAt plan step))∧w.grownBy w' (some b):=by
 have hz0:¬ (s.size-at_)=0:=by omega
 have hv:srcGive plan s.size at_ step n=some (s.size-at_,false):=by
  unfold srcGive sinkN
  rw[if_pos hp,hk,if_neg (nat_nneg k),if_pos (nat_lt hkn),Int.toNat_natCast]
  show (if k=0 then _ else _)=_
  rw[if_neg (Nat.ne_of_gt hk0),if_neg he,if_pos hrr]
 rw[hv]
 have hu:=And.intro hg (And.intro hs (And.intro hat (And.intro hst (And.intro hn hn2))))
 have j5:=nat_nbeq he
 obtain ⟨r1,a1,hr1,ha1,t3,t4,t5,t6,j7,j8⟩:=src_nums s.size at_ (s.size-at_) (by omega) hs
 rw[←hr1] at t5 t6
 have j6:(r1:Int)<(k:Int):=(nat_lt (by rw[hr1];exact hrr))
 have c0:w.cell? ⟨b,0,none⟩=some (.string s):=hb.cell rfl
 have c1:w.cell? ⟨b,1,none⟩=some (.int .i64 ((at_:Nat):Int)):=hb.cell rfl
 have c2:w.cell? ⟨b,2,none⟩=some (.slice (some ⟨g,0,none⟩) plan.length plan.length):=hb.cell rfl
 have c3:w.cell? ⟨b,3,none⟩=some (.int .i64 ((step:Nat):Int)):=hb.cell rfl
 have hf:=hb.frozen
 have cg:=hg.cell (intV_get plan step hp)
 have ne:g≠b:=by
  intro e
  subst e
  have h:=hb.symm.trans hg
  simp[sourceCells] at h
 obtain ⟨q,hq,t1,t2⟩:=step_nums step hst
 have j1:=nat_lt hp
 have hAT:sinkAt plan step=q:=by unfold sinkAt;rw[if_pos hp,hq]
 rw[hAT]
 clear hAT
 rw[hk] at cg
 have j2:=nat_lt hkn
 have j4:=nat_pos hk0
 have j9:=nat_nneg k
 clear hk
 have HB:=hide ((hb.setCell_same 3 (.int .i64 ((q:Nat):Int))).setCell_same 1 (.int .i64 ((a1:Nat):Int)))
 have HG:=hide (((World.grownBy.refl w (some b)).setCell 3 (.int .i64 ((q:Nat):Int))).setCell 1 (.int .i64 ((a1:Nat):Int)))
 have hst2:srcText s at_ (s.size-at_)=s.extract at_ a1:=by unfold srcText;rw[if_neg hz0,ha1]
 have hsa2:srcAt at_ (some (s.size-at_,false))=a1:=by show at_+(s.size-at_)=a1;rw[ha1]
 rw[hsa2]
 show Calls _ _ _ _ fun e w'=>e = .returned (.tuple #[.string (srcText s at_ (s.size-at_)),.bool false,.int .i64 0])∧_
 rw[hst2]
 clear hst2 hsa2
 clear hv hu hb hg hs hat hst hn2 hz0 hq hr1 ha1 hp hkn he hk0 hrr
 go_enter Tryz.func94,Tryz.ntmps94
 go_wp2
 go_region
 go_wp2
 go_region
 go_wp2
 go_region
 go_wp2
 go_region
 go_wp2
 go_region
 go_wp2
 go_region
 go_wp2
 refine bodyPost_ret (results_tmp3 rfl _ _ _) rfl ?_
 exact ⟨rfl,HB.out.drewN 6,HG.out.drewN 6⟩
set_option maxHeartbeats 1600000 in
theorem src_less_some (b g:Nat) (s:ByteArray) (plan:List Int) (at_ step n:Nat) (w:World) (hb:Blk w b 114 (sourceCells s at_ g plan.length step)) (hg:Blk w g 3 (intV plan)) (hs:s.size<1125899906842624) (hat:at_≤s.size) (hst:step<1125899906842624) (hn:0<n) (hn2:n<1125899906842624) (k:Nat) (hp:step<plan.length) (hk:plan.getD step 0=(k:Int)) (hkn:k<n) (hk0:0<k) (he:¬ at_=s.size) (hrr:¬ s.size-at_<k):
  Calls Tryz.prog 94 #[.pointer (some ⟨b,0,none⟩),.int .i64 (n:Nat)] w fun e w'=>
   e = .returned (srcAns s at_ (srcGive plan s.size at_ step n))∧Blk w' b 114 (sourceCells s (srcAt at_ (srcGive plan s.size at_ step n)) g plan.length (sinkAt plan step))∧w.grownBy w' (some b):=by
 have hz0:¬ (k)=0:=by omega
 have hv:srcGive plan s.size at_ step n=some (k,false):=by
  unfold srcGive sinkN
  rw[if_pos hp,hk,if_neg (nat_nneg k),if_pos (nat_lt hkn),Int.toNat_natCast]
  show (if k=0 then _ else _)=_
  rw[if_neg (Nat.ne_of_gt hk0),if_neg he,if_neg hrr]
 rw[hv]
 have hu:=And.intro hg (And.intro hs (And.intro hat (And.intro hst (And.intro hn hn2))))
 have j5:=nat_nbeq he
 obtain ⟨r1,a1,hr1,ha1,t3,t4,t5,t6,j7,j8⟩:=src_nums s.size at_ (k) (by omega) hs
 skip
 have j6:¬ (r1:Int)<(k:Int):=(nat_nlt (by rw[hr1];exact hrr))
 have c0:w.cell? ⟨b,0,none⟩=some (.string s):=hb.cell rfl
 have c1:w.cell? ⟨b,1,none⟩=some (.int .i64 ((at_:Nat):Int)):=hb.cell rfl
 have c2:w.cell? ⟨b,2,none⟩=some (.slice (some ⟨g,0,none⟩) plan.length plan.length):=hb.cell rfl
 have c3:w.cell? ⟨b,3,none⟩=some (.int .i64 ((step:Nat):Int)):=hb.cell rfl
 have hf:=hb.frozen
 have cg:=hg.cell (intV_get plan step hp)
 have ne:g≠b:=by
  intro e
  subst e
  have h:=hb.symm.trans hg
  simp[sourceCells] at h
 obtain ⟨q,hq,t1,t2⟩:=step_nums step hst
 have j1:=nat_lt hp
 have hAT:sinkAt plan step=q:=by unfold sinkAt;rw[if_pos hp,hq]
 rw[hAT]
 clear hAT
 rw[hk] at cg
 have j2:=nat_lt hkn
 have j4:=nat_pos hk0
 have j9:=nat_nneg k
 clear hk
 have HB:=hide ((hb.setCell_same 3 (.int .i64 ((q:Nat):Int))).setCell_same 1 (.int .i64 ((a1:Nat):Int)))
 have HG:=hide (((World.grownBy.refl w (some b)).setCell 3 (.int .i64 ((q:Nat):Int))).setCell 1 (.int .i64 ((a1:Nat):Int)))
 have hst2:srcText s at_ (k)=s.extract at_ a1:=by unfold srcText;rw[if_neg hz0,ha1]
 have hsa2:srcAt at_ (some (k,false))=a1:=by show at_+(k)=a1;rw[ha1]
 rw[hsa2]
 show Calls _ _ _ _ fun e w'=>e = .returned (.tuple #[.string (srcText s at_ (k)),.bool false,.int .i64 0])∧_
 rw[hst2]
 clear hst2 hsa2
 clear hv hu hb hg hs hat hst hn2 hz0 hq hr1 ha1 hp hkn he hk0 hrr
 go_enter Tryz.func94,Tryz.ntmps94
 go_wp2
 go_region
 go_wp2
 go_region
 go_wp2
 go_region
 go_wp2
 go_region
 go_wp2
 go_region
 go_wp2
 refine bodyPost_ret (results_tmp3 rfl _ _ _) rfl ?_
 exact ⟨rfl,HB.out.drewN 5,HG.out.drewN 5⟩
set_option maxHeartbeats 1600000 in
theorem src_all_end (b g:Nat) (s:ByteArray) (plan:List Int) (at_ step n:Nat) (w:World) (hb:Blk w b 114 (sourceCells s at_ g plan.length step)) (hg:Blk w g 3 (intV plan)) (hs:s.size<1125899906842624) (hat:at_≤s.size) (hst:step<1125899906842624) (hn:0<n) (hn2:n<1125899906842624) (hp:step<plan.length) (hk1:¬ plan.getD step 0<0) (hkn:¬ plan.getD step 0<(n:Int)) (he:at_=s.size):
  Calls Tryz.prog 94 #[.pointer (some ⟨b,0,none⟩),.int .i64 (n:Nat)] w fun e w'=>
   e = .returned (srcAns s at_ (srcGive plan s.size at_ step n))∧Blk w' b 114 (sourceCells s (srcAt at_ (srcGive plan s.size at_ step n)) g plan.length (sinkAt plan step))∧w.grownBy w' (some b):=by
 have hv:srcGive plan s.size at_ step n=some (0,true):=by
  unfold srcGive sinkN
  rw[if_pos hp,if_neg hk1,if_neg hkn]
  show (if n=0 then _ else _)=_
  rw[if_neg (Nat.ne_of_gt hn),if_pos he]
 rw[hv]
 have hu:=And.intro hg (And.intro hs (And.intro hat (And.intro hst (And.intro hn hn2))))
 have j5:=nat_beq he
 have c0:w.cell? ⟨b,0,none⟩=some (.string s):=hb.cell rfl
 have c1:w.cell? ⟨b,1,none⟩=some (.int .i64 ((at_:Nat):Int)):=hb.cell rfl
 have c2:w.cell? ⟨b,2,none⟩=some (.slice (some ⟨g,0,none⟩) plan.length plan.length):=hb.cell rfl
 have c3:w.cell? ⟨b,3,none⟩=some (.int .i64 ((step:Nat):Int)):=hb.cell rfl
 have hf:=hb.frozen
 have cg:=hg.cell (intV_get plan step hp)
 have ne:g≠b:=by
  intro e
  subst e
  have h:=hb.symm.trans hg
  simp[sourceCells] at h
 obtain ⟨q,hq,t1,t2⟩:=step_nums step hst
 have j1:=nat_lt hp
 have hAT:sinkAt plan step=q:=by unfold sinkAt;rw[if_pos hp,hq]
 rw[hAT]
 clear hAT
 generalize plan.getD step 0=k at *
 have j2:¬ (k:Int)<(n:Int):=hkn
 have j4:=nat_pos hn
 have j9:¬ (k:Int)<0:=hk1
 clear hk1
 have HB:=hide (hb.setCell_same 3 (.int .i64 ((q:Nat):Int)))
 have HG:=hide ((World.grownBy.refl w (some b)).setCell 3 (.int .i64 ((q:Nat):Int)))
 show Calls _ _ _ _ fun e w'=>e = .returned (.tuple #[.string ⟨#[]⟩,.bool true,.int .i64 0])∧Blk w' b _ (sourceCells s at_ g plan.length _)∧_
 clear hv hu hb hg hs hat hst hn2 hq hp hkn he
 go_enter Tryz.func94,Tryz.ntmps94
 go_wp2
 go_region
 go_wp2
 go_region
 go_wp2
 go_region
 go_wp2
 refine bodyPost_ret (results_tmp3 rfl _ _ _) rfl ?_
 exact ⟨rfl,HB.out.drewN 3,HG.out.drewN 3⟩
set_option maxHeartbeats 1600000 in
theorem src_all_rest (b g:Nat) (s:ByteArray) (plan:List Int) (at_ step n:Nat) (w:World) (hb:Blk w b 114 (sourceCells s at_ g plan.length step)) (hg:Blk w g 3 (intV plan)) (hs:s.size<1125899906842624) (hat:at_≤s.size) (hst:step<1125899906842624) (hn:0<n) (hn2:n<1125899906842624) (hp:step<plan.length) (hk1:¬ plan.getD step 0<0) (hkn:¬ plan.getD step 0<(n:Int)) (he:¬ at_=s.size) (hrr:s.size-at_<n):
  Calls Tryz.prog 94 #[.pointer (some ⟨b,0,none⟩),.int .i64 (n:Nat)] w fun e w'=>
   e = .returned (srcAns s at_ (srcGive plan s.size at_ step n))∧Blk w' b 114 (sourceCells s (srcAt at_ (srcGive plan s.size at_ step n)) g plan.length (sinkAt plan step))∧w.grownBy w' (some b):=by
 have hz0:¬ (s.size-at_)=0:=by omega
 have hv:srcGive plan s.size at_ step n=some (s.size-at_,false):=by
  unfold srcGive sinkN
  rw[if_pos hp,if_neg hk1,if_neg hkn]
  show (if n=0 then _ else _)=_
  rw[if_neg (Nat.ne_of_gt hn),if_neg he,if_pos hrr]
 rw[hv]
 have hu:=And.intro hg (And.intro hs (And.intro hat (And.intro hst (And.intro hn hn2))))
 have j5:=nat_nbeq he
 obtain ⟨r1,a1,hr1,ha1,t3,t4,t5,t6,j7,j8⟩:=src_nums s.size at_ (s.size-at_) (by omega) hs
 rw[←hr1] at t5 t6
 have j6:(r1:Int)<(n:Int):=(nat_lt (by rw[hr1];exact hrr))
 have c0:w.cell? ⟨b,0,none⟩=some (.string s):=hb.cell rfl
 have c1:w.cell? ⟨b,1,none⟩=some (.int .i64 ((at_:Nat):Int)):=hb.cell rfl
 have c2:w.cell? ⟨b,2,none⟩=some (.slice (some ⟨g,0,none⟩) plan.length plan.length):=hb.cell rfl
 have c3:w.cell? ⟨b,3,none⟩=some (.int .i64 ((step:Nat):Int)):=hb.cell rfl
 have hf:=hb.frozen
 have cg:=hg.cell (intV_get plan step hp)
 have ne:g≠b:=by
  intro e
  subst e
  have h:=hb.symm.trans hg
  simp[sourceCells] at h
 obtain ⟨q,hq,t1,t2⟩:=step_nums step hst
 have j1:=nat_lt hp
 have hAT:sinkAt plan step=q:=by unfold sinkAt;rw[if_pos hp,hq]
 rw[hAT]
 clear hAT
 generalize plan.getD step 0=k at *
 have j2:¬ (k:Int)<(n:Int):=hkn
 have j4:=nat_pos hn
 have j9:¬ (k:Int)<0:=hk1
 clear hk1
 have HB:=hide ((hb.setCell_same 3 (.int .i64 ((q:Nat):Int))).setCell_same 1 (.int .i64 ((a1:Nat):Int)))
 have HG:=hide (((World.grownBy.refl w (some b)).setCell 3 (.int .i64 ((q:Nat):Int))).setCell 1 (.int .i64 ((a1:Nat):Int)))
 have hst2:srcText s at_ (s.size-at_)=s.extract at_ a1:=by unfold srcText;rw[if_neg hz0,ha1]
 have hsa2:srcAt at_ (some (s.size-at_,false))=a1:=by show at_+(s.size-at_)=a1;rw[ha1]
 rw[hsa2]
 show Calls _ _ _ _ fun e w'=>e = .returned (.tuple #[.string (srcText s at_ (s.size-at_)),.bool false,.int .i64 0])∧_
 rw[hst2]
 clear hst2 hsa2
 clear hv hu hb hg hs hat hst hn2 hz0 hq hr1 ha1 hp hkn he hrr
 go_enter Tryz.func94,Tryz.ntmps94
 go_wp2
 go_region
 go_wp2
 go_region
 go_wp2
 go_region
 go_wp2
 go_region
 go_wp2
 go_region
 go_wp2
 go_region
 go_wp2
 refine bodyPost_ret (results_tmp3 rfl _ _ _) rfl ?_
 exact ⟨rfl,HB.out.drewN 6,HG.out.drewN 6⟩
set_option maxHeartbeats 1600000 in
theorem src_all_some (b g:Nat) (s:ByteArray) (plan:List Int) (at_ step n:Nat) (w:World) (hb:Blk w b 114 (sourceCells s at_ g plan.length step)) (hg:Blk w g 3 (intV plan)) (hs:s.size<1125899906842624) (hat:at_≤s.size) (hst:step<1125899906842624) (hn:0<n) (hn2:n<1125899906842624) (hp:step<plan.length) (hk1:¬ plan.getD step 0<0) (hkn:¬ plan.getD step 0<(n:Int)) (he:¬ at_=s.size) (hrr:¬ s.size-at_<n):
  Calls Tryz.prog 94 #[.pointer (some ⟨b,0,none⟩),.int .i64 (n:Nat)] w fun e w'=>
   e = .returned (srcAns s at_ (srcGive plan s.size at_ step n))∧Blk w' b 114 (sourceCells s (srcAt at_ (srcGive plan s.size at_ step n)) g plan.length (sinkAt plan step))∧w.grownBy w' (some b):=by
 have hz0:¬ (n)=0:=by omega
 have hv:srcGive plan s.size at_ step n=some (n,false):=by
  unfold srcGive sinkN
  rw[if_pos hp,if_neg hk1,if_neg hkn]
  show (if n=0 then _ else _)=_
  rw[if_neg (Nat.ne_of_gt hn),if_neg he,if_neg hrr]
 rw[hv]
 have hu:=And.intro hg (And.intro hs (And.intro hat (And.intro hst (And.intro hn hn2))))
 have j5:=nat_nbeq he
 obtain ⟨r1,a1,hr1,ha1,t3,t4,t5,t6,j7,j8⟩:=src_nums s.size at_ (n) (by omega) hs
 skip
 have j6:¬ (r1:Int)<(n:Int):=(nat_nlt (by rw[hr1];exact hrr))
 have c0:w.cell? ⟨b,0,none⟩=some (.string s):=hb.cell rfl
 have c1:w.cell? ⟨b,1,none⟩=some (.int .i64 ((at_:Nat):Int)):=hb.cell rfl
 have c2:w.cell? ⟨b,2,none⟩=some (.slice (some ⟨g,0,none⟩) plan.length plan.length):=hb.cell rfl
 have c3:w.cell? ⟨b,3,none⟩=some (.int .i64 ((step:Nat):Int)):=hb.cell rfl
 have hf:=hb.frozen
 have cg:=hg.cell (intV_get plan step hp)
 have ne:g≠b:=by
  intro e
  subst e
  have h:=hb.symm.trans hg
  simp[sourceCells] at h
 obtain ⟨q,hq,t1,t2⟩:=step_nums step hst
 have j1:=nat_lt hp
 have hAT:sinkAt plan step=q:=by unfold sinkAt;rw[if_pos hp,hq]
 rw[hAT]
 clear hAT
 generalize plan.getD step 0=k at *
 have j2:¬ (k:Int)<(n:Int):=hkn
 have j4:=nat_pos hn
 have j9:¬ (k:Int)<0:=hk1
 clear hk1
 have HB:=hide ((hb.setCell_same 3 (.int .i64 ((q:Nat):Int))).setCell_same 1 (.int .i64 ((a1:Nat):Int)))
 have HG:=hide (((World.grownBy.refl w (some b)).setCell 3 (.int .i64 ((q:Nat):Int))).setCell 1 (.int .i64 ((a1:Nat):Int)))
 have hst2:srcText s at_ (n)=s.extract at_ a1:=by unfold srcText;rw[if_neg hz0,ha1]
 have hsa2:srcAt at_ (some (n,false))=a1:=by show at_+(n)=a1;rw[ha1]
 rw[hsa2]
 show Calls _ _ _ _ fun e w'=>e = .returned (.tuple #[.string (srcText s at_ (n)),.bool false,.int .i64 0])∧_
 rw[hst2]
 clear hst2 hsa2
 clear hv hu hb hg hs hat hst hn2 hz0 hq hr1 ha1 hp hkn he hrr
 go_enter Tryz.func94,Tryz.ntmps94
 go_wp2
 go_region
 go_wp2
 go_region
 go_wp2
 go_region
 go_wp2
 go_region
 go_wp2
 go_region
 go_wp2
 refine bodyPost_ret (results_tmp3 rfl _ _ _) rfl ?_
 exact ⟨rfl,HB.out.drewN 5,HG.out.drewN 5⟩
set_option maxHeartbeats 1600000 in
theorem src_fail (b g:Nat) (s:ByteArray) (plan:List Int) (at_ step n:Nat) (w:World) (hb:Blk w b 114 (sourceCells s at_ g plan.length step)) (hg:Blk w g 3 (intV plan)) (hs:s.size<1125899906842624) (hat:at_≤s.size) (hst:step<1125899906842624) (hn:0<n) (hn2:n<1125899906842624) (hp:step<plan.length) (hk:plan.getD step 0<0):
  Calls Tryz.prog 94 #[.pointer (some ⟨b,0,none⟩),.int .i64 (n:Nat)] w fun e w'=>
   e = .returned (srcAns s at_ (srcGive plan s.size at_ step n))∧Blk w' b 114 (sourceCells s (srcAt at_ (srcGive plan s.size at_ step n)) g plan.length (sinkAt plan step))∧w.grownBy w' (some b):=by
 have hv:srcGive plan s.size at_ step n=none:=by unfold srcGive sinkN;rw[if_pos hp,if_pos hk]
 rw[hv]
 have c0:w.cell? ⟨b,0,none⟩=some (.string s):=hb.cell rfl
 have c1:w.cell? ⟨b,1,none⟩=some (.int .i64 ((at_:Nat):Int)):=hb.cell rfl
 have c2:w.cell? ⟨b,2,none⟩=some (.slice (some ⟨g,0,none⟩) plan.length plan.length):=hb.cell rfl
 have c3:w.cell? ⟨b,3,none⟩=some (.int .i64 ((step:Nat):Int)):=hb.cell rfl
 have hf:=hb.frozen
 have cg:=hg.cell (intV_get plan step hp)
 have ne:g≠b:=by
  intro e
  subst e
  have h:=hb.symm.trans hg
  simp[sourceCells] at h
 obtain ⟨q,hq,t1,t2⟩:=step_nums step hst
 have j1:=nat_lt hp
 have hAT:sinkAt plan step=q:=by unfold sinkAt;rw[if_pos hp,hq]
 rw[hAT]
 clear hAT
 generalize plan.getD step 0=k at *
 have HB:=hide (hb.setCell_same 3 (.int .i64 ((q:Nat):Int)))
 have HG:=hide ((World.grownBy.refl w (some b)).setCell 3 (.int .i64 ((q:Nat):Int)))
 show Calls _ _ _ _ fun e w'=>e = .returned (.tuple #[.string ⟨#[]⟩,.bool false,.int .i64 17])∧Blk w' b _ (sourceCells s at_ g plan.length _)∧_
 have hu:=And.intro hs (And.intro hat (And.intro hn hn2))
 clear hu hv hb hg hs hat hst hn hn2 hq hp
 go_enter Tryz.func94,Tryz.ntmps94
 go_wp2
 go_region
 go_wp2
 go_region
 go_wp2
 refine bodyPost_ret (results_tmp3 rfl _ _ _) rfl ?_
 exact ⟨rfl,HB.out.drewN 2,HG.out.drewN 2⟩
set_option maxHeartbeats 1600000 in
theorem src_none (b g:Nat) (s:ByteArray) (plan:List Int) (at_ step n:Nat) (w:World) (hb:Blk w b 114 (sourceCells s at_ g plan.length step)) (hg:Blk w g 3 (intV plan)) (hs:s.size<1125899906842624) (hat:at_≤s.size) (hst:step<1125899906842624) (hn:0<n) (hn2:n<1125899906842624) (hp:step<plan.length) (hk:plan.getD step 0=0):
  Calls Tryz.prog 94 #[.pointer (some ⟨b,0,none⟩),.int .i64 (n:Nat)] w fun e w'=>
   e = .returned (srcAns s at_ (srcGive plan s.size at_ step n))∧Blk w' b 114 (sourceCells s (srcAt at_ (srcGive plan s.size at_ step n)) g plan.length (sinkAt plan step))∧w.grownBy w' (some b):=by
 have hv:srcGive plan s.size at_ step n=some (0,false):=by
  unfold srcGive sinkN
  rw[if_pos hp,hk,if_neg (by decide),if_pos (by omega)]
  rfl
 rw[hv]
 have c0:w.cell? ⟨b,0,none⟩=some (.string s):=hb.cell rfl
 have c1:w.cell? ⟨b,1,none⟩=some (.int .i64 ((at_:Nat):Int)):=hb.cell rfl
 have c2:w.cell? ⟨b,2,none⟩=some (.slice (some ⟨g,0,none⟩) plan.length plan.length):=hb.cell rfl
 have c3:w.cell? ⟨b,3,none⟩=some (.int .i64 ((step:Nat):Int)):=hb.cell rfl
 have hf:=hb.frozen
 have cg:=hg.cell (intV_get plan step hp)
 have ne:g≠b:=by
  intro e
  subst e
  have h:=hb.symm.trans hg
  simp[sourceCells] at h
 obtain ⟨q,hq,t1,t2⟩:=step_nums step hst
 have j1:=nat_lt hp
 have hAT:sinkAt plan step=q:=by unfold sinkAt;rw[if_pos hp,hq]
 rw[hAT]
 clear hAT
 rw[hk] at cg
 have j2:(0:Int)<(n:Int):=by omega
 have HB:=hide (hb.setCell_same 3 (.int .i64 ((q:Nat):Int)))
 have HG:=hide ((World.grownBy.refl w (some b)).setCell 3 (.int .i64 ((q:Nat):Int)))
 show Calls _ _ _ _ fun e w'=>e = .returned (.tuple #[.string ⟨#[]⟩,.bool false,.int .i64 0])∧Blk w' b _ (sourceCells s at_ g plan.length _)∧_
 have hu:=And.intro hs (And.intro hat hn2)
 clear hu hv hb hg hs hat hst hn hn2 hq hp hk
 go_enter Tryz.func94,Tryz.ntmps94
 go_wp2
 go_region
 go_wp2
 go_region
 go_wp2
 refine bodyPost_ret (results_tmp3 rfl _ _ _) rfl ?_
 exact ⟨rfl,HB.out.drewN 2,HG.out.drewN 2⟩
theorem srcRead_any (b g:Nat) (s:ByteArray) (plan:List Int) (at_ step n:Nat) (w:World) (hb:Blk w b 114 (sourceCells s at_ g plan.length step)) (hg:Blk w g 3 (intV plan)) (hs:s.size<1125899906842624) (hat:at_≤s.size) (hst:step<1125899906842624) (hn:0<n) (hn2:n<1125899906842624):
  Calls Tryz.prog 94 #[.pointer (some ⟨b,0,none⟩),.int .i64 (n:Nat)] w fun e w'=>
   e = .returned (srcAns s at_ (srcGive plan s.size at_ step n))∧Blk w' b 114 (sourceCells s (srcAt at_ (srcGive plan s.size at_ step n)) g plan.length (sinkAt plan step))∧w.grownBy w' (some b):=by
 by_cases hp:step<plan.length
 ·by_cases hk:plan.getD step 0<0
  ·exact src_fail b g s plan at_ step n w hb hg hs hat hst hn hn2 hp hk
  ·by_cases hkn:plan.getD step 0<(n:Int)
   ·obtain ⟨k,hkk⟩:∃ k:Nat,plan.getD step 0=(k:Int):=⟨(plan.getD step 0).toNat,by omega⟩
    by_cases h0:k=0
    ·exact src_none b g s plan at_ step n w hb hg hs hat hst hn hn2 hp (by rw[hkk,h0];rfl)
    ·by_cases he:at_=s.size
     ·exact src_less_end b g s plan at_ step n w hb hg hs hat hst hn hn2 k hp hkk (by omega) (by omega) he
     ·by_cases hr:s.size-at_<k
      ·exact src_less_rest b g s plan at_ step n w hb hg hs hat hst hn hn2 k hp hkk (by omega) (by omega) he hr
      ·exact src_less_some b g s plan at_ step n w hb hg hs hat hst hn hn2 k hp hkk (by omega) (by omega) he hr
   ·by_cases he:at_=s.size
    ·exact src_all_end b g s plan at_ step n w hb hg hs hat hst hn hn2 hp hk hkn he
    ·by_cases hr:s.size-at_<n
     ·exact src_all_rest b g s plan at_ step n w hb hg hs hat hst hn hn2 hp hk hkn he hr
     ·exact src_all_some b g s plan at_ step n w hb hg hs hat hst hn hn2 hp hk hkn he hr
 ·by_cases he:at_=s.size
  ·exact src_beyond_end b g s plan at_ step n w hb hg hs hat hst hn hn2 hp he
  ·by_cases hr:s.size-at_<n
   ·exact src_beyond_rest b g s plan at_ step n w hb hg hs hat hst hn hn2 hp he hr
   ·exact src_beyond_some b g s plan at_ step n w hb hg hs hat hst hn hn2 hp he hr
namespace Hd
def lineAt (t:List UInt8):Nat→Nat
 | 0=>0
 | n+1=>if t.getD n 0=10 then n+1 else lineAt t n
theorem lineAt_le (t:List UInt8):∀ n,lineAt t n≤n
 | 0=>Nat.le_refl _
 | n+1=>by
  have:=lineAt_le t n
  unfold lineAt
  split <;> omega
abbrev wholeAt (t:List UInt8) (n:Nat):Prop:=t.getD n 0=10∧lineAt t n+3≤n∧(t.drop (lineAt t n)).take 3=mark
def noneTo (t:List UInt8) (k:Nat):Prop:=∀ i,i<k→¬ wholeAt t i
theorem getD_no {a:List UInt8} (h:(10:UInt8) ∉ a) (r:List UInt8) {i:Nat} (hi:i<a.length):(a++r).getD i 0≠10:=by
 rw[List.getD_eq_getElem?_getD,List.getElem?_append_left hi,List.getElem?_eq_getElem hi]
 exact fun e=>h (e ▸ List.getElem_mem hi)
theorem line_first {a:List UInt8} (h:(10:UInt8) ∉ a) (r:List UInt8):∀ i,i≤a.length→lineAt (a++r) i=0
 | 0,_=>rfl
 | i+1,hi=>by rw[lineAt,if_neg (getD_no h r (by omega)),line_first h r i (by omega)]
theorem getD_next (a r:List UInt8) (i:Nat):(a++10::r).getD (a.length+1+i) 0=r.getD i 0:=by
 rw[List.getD_eq_getElem?_getD,List.getElem?_append_right (by omega),List.getD_eq_getElem?_getD,show a.length+1+i-a.length=i+1 by omega,List.getElem?_cons_succ]
theorem getD_hit (a r:List UInt8):(a++10::r).getD a.length 0=10:=by
 rw[List.getD_eq_getElem?_getD,List.getElem?_append_right (Nat.le_refl _),Nat.sub_self]
 rfl
theorem line_next {a:List UInt8} (r:List UInt8):∀ i,lineAt (a++10::r) (a.length+1+i)=a.length+1+lineAt r i
 | 0=>by
  show (if (a++10::r).getD a.length 0=10 then a.length+1 else lineAt (a++10::r) a.length)=a.length+1
  rw[if_pos (getD_hit a r)]
 | i+1=>by
  rw[←Nat.add_assoc,lineAt,getD_next,lineAt]
  split
  ·rfl
  ·rw[line_next r i]
theorem whole_next {a:List UInt8} (r:List UInt8) (i:Nat):wholeAt (a++10::r) (a.length+1+i)↔wholeAt r i:=by
 unfold wholeAt
 rw[getD_next,line_next,show a.length+1+lineAt r i=a.length+(lineAt r i+1) by omega,List.drop_append,List.drop_eq_nil_of_le (by omega:a.length≤a.length+(lineAt r i+1)),List.nil_append,Nat.add_sub_cancel_left,List.drop_succ_cons]
 have e:a.length+(lineAt r i+1)+3≤a.length+1+i↔lineAt r i+3≤i:=by omega
 rw[e]
theorem whole_in {a:List UInt8} (h:(10:UInt8) ∉ a) (r:List UInt8) {i:Nat} (hi:i<a.length):¬ wholeAt (a++10::r) i:=fun e=>getD_no h _ hi e.1
theorem whole_hit {a:List UInt8} (h:(10:UInt8) ∉ a) (r:List UInt8):wholeAt (a++10::r) a.length↔3≤a.length∧a.take 3=mark:=by
 unfold wholeAt
 rw[line_first h _ _ (Nat.le_refl _),List.drop_zero,getD_hit]
 constructor
 ·rintro ⟨_,h1,h2⟩
  rw[List.take_append_of_le_length (by omega)] at h2
  exact ⟨by omega,h2⟩
 ·rintro ⟨h1,h2⟩
  rw[List.take_append_of_le_length (by omega)]
  exact ⟨rfl,by omega,h2⟩
theorem none_next {a:List UInt8} (h:(10:UInt8) ∉ a) (hm:a.take 3≠mark) {r:List UInt8} {k:Nat} (hr:noneTo r k):noneTo (a++10::r) (a.length+1+k):=by
 intro i hi
 rcases Nat.lt_trichotomy i a.length with h1 | h1 | h1
 ·exact whole_in h r h1
 ·subst h1
  rw[whole_hit h r]
  exact fun e=>hm e.2
 ·obtain ⟨j,rfl⟩:∃ j,i=a.length+1+j:=⟨i-(a.length+1),by omega⟩
  rw[whole_next]
  exact hr j (by omega)
theorem none_first {a:List UInt8} (h:(10:UInt8) ∉ a) (r:List UInt8):noneTo (a++10::r) a.length:=fun _ hi=>whole_in h r hi
theorem eline_mark (s b:List UInt8):(eline s b).take 3≠mark:=by
 unfold eline wrapB
 rw[List.append_assoc,List.append_assoc,List.take_append_of_le_length (by decide)]
 decide
theorem mline_mark (m:List UInt8):3≤(mline m).length∧(mline m).take 3=mark:=by
 unfold mline mark
 refine ⟨by simp,?_⟩
 rw[List.append_assoc,List.take_append_of_le_length (by decide)]
 rfl
theorem Ok.top {ss bs:List ByteArray} {m:ByteArray} (h:Ok ss bs m) (r:List UInt8):wholeAt (text ss bs m++r) ((text ss bs m).length-1)∧noneTo (text ss bs m++r) ((text ss bs m).length-1):=by
 have d0:(10:UInt8) ∉ line0:=by decide
 have d1:line0.take 3≠mark:=by decide
 have last:∀ m:List UInt8,wholeAt (mline m++10::r) (mline m).length∧noneTo (mline m++10::r) (mline m).length:=fun m=>⟨(whole_hit (mline_no m) r).2 (mline_mark m),none_first (mline_no m) r⟩
 have next:∀ {a x:List UInt8} {k:Nat},(10:UInt8) ∉ a→a.take 3≠mark→wholeAt x k∧noneTo x k→wholeAt (a++10::x) (a.length+1+k)∧noneTo (a++10::x) (a.length+1+k):=fun h1 h2 h3=>⟨(whole_next _ _).2 h3.1,none_next h1 h2 h3.2⟩
 obtain ⟨n0,n3,nb,_,_,_⟩:=h
 match ss,bs,n0,n3,nb with
 | [a],[p],_,_,_=>
  rw[text1]
  have H:=next d0 d1 (next (eline_no a.data.toList p.data.toList) (eline_mark _ _) (last m.data.toList))
  have e:(line0++10::(eline a.data.toList p.data.toList++10::(mline m.data.toList++10::[]))).length-1=line0.length+1+((eline a.data.toList p.data.toList).length+1+(mline m.data.toList).length):=by simp only[List.length_append,List.length_cons,List.length_nil];omega
  rw[e]
  simpa only[List.append_assoc,List.cons_append,List.nil_append] using H
 | [a,b],[p,q],_,_,_=>
  rw[text2]
  have H:=next d0 d1 (next (eline_no a.data.toList p.data.toList) (eline_mark _ _) (next (eline_no b.data.toList q.data.toList) (eline_mark _ _) (last m.data.toList)))
  have e:(line0++10::(eline a.data.toList p.data.toList++10::(eline b.data.toList q.data.toList++10::(mline m.data.toList++10::[])))).length-1=line0.length+1+((eline a.data.toList p.data.toList).length+1+((eline b.data.toList q.data.toList).length+1+(mline m.data.toList).length)):=by simp only[List.length_append,List.length_cons,List.length_nil];omega
  rw[e]
  simpa only[List.append_assoc,List.cons_append,List.nil_append] using H
 | [a,b,c],[p,q,s],_,_,_=>
  rw[text3]
  have H:=next d0 d1 (next (eline_no a.data.toList p.data.toList) (eline_mark _ _) (next (eline_no b.data.toList q.data.toList) (eline_mark _ _) (next (eline_no c.data.toList s.data.toList) (eline_mark _ _) (last m.data.toList))))
  have e:(line0++10::(eline a.data.toList p.data.toList++10::(eline b.data.toList q.data.toList++10::(eline c.data.toList s.data.toList++10::(mline m.data.toList++10::[]))))).length-1=line0.length+1+((eline a.data.toList p.data.toList).length+1+((eline b.data.toList q.data.toList).length+1+((eline c.data.toList s.data.toList).length+1+(mline m.data.toList).length))):=by simp only[List.length_append,List.length_cons,List.length_nil];omega
  rw[e]
  simpa only[List.append_assoc,List.cons_append,List.nil_append] using H
 | [],_,h,_,_=>exact absurd rfl h
 | _::_::_::_::_,_,_,h,_=>exact absurd (by simp) h
 | [_],[],_,_,h=>simp at h
 | [_],_::_::_,_,_,h=>simp at h
 | [_,_],[],_,_,h=>simp at h
 | [_,_],[_],_,_,h=>simp at h
 | [_,_],_::_::_::_,_,_,h=>simp at h
 | [_,_,_],[],_,_,h=>simp at h
 | [_,_,_],[_],_,_,h=>simp at h
 | [_,_,_],[_,_],_,_,h=>simp at h
 | [_,_,_],_::_::_::_::_,_,_,h=>simp at h
end Hd
structure Src where
 s:ByteArray
 plan:List Int
 at_:Nat
 step:Nat
namespace Src
def rd (x:Src) (n:Nat):Option (Nat × Bool):=srcGive x.plan x.s.size x.at_ x.step n
def next (x:Src) (n:Nat):Src:=⟨x.s,x.plan,srcAt x.at_ (x.rd n),sinkAt x.plan x.step⟩
def cells (x:Src) (g:Nat):List Value:=sourceCells x.s x.at_ g x.plan.length x.step
def Ask (i0:Src) (i1:Nat) (i2:Src) (i3:Nat):Prop:=∀ P:Src→Nat→Src→Nat→Prop,(∀ (x:Src),P x 0 x 0)→(∀ (x:Src) (n:Nat),0<n→x.rd n=none→P x n (x.next n) 2)→(∀ (x:Src) (n m:Nat),0<n→x.rd n=some (m,true)→P x n (x.next n) 1)→(∀ (x:Src) (n m:Nat) (y:Src) (c:Nat),0<n→x.rd n=some (m,false)→P (x.next n) (n-m) y c→P x n y c)→P i0 i1 i2 i3
theorem Ask.done (x:Src):Ask x 0 x 0:=fun _ c0 _ _ _=>c0 x
theorem Ask.fail (x:Src) (n:Nat) (h0:0<n) (h1:x.rd n=none):Ask x n (x.next n) 2:=fun _ _ c1 _ _=>c1 x n h0 h1
theorem Ask.over (x:Src) (n m:Nat) (h0:0<n) (h1:x.rd n=some (m,true)):Ask x n (x.next n) 1:=fun _ _ _ c2 _=>c2 x n m h0 h1
theorem Ask.more (x:Src) (n m:Nat) (y:Src) (c:Nat) (h0:0<n) (h1:x.rd n=some (m,false)) (h2:Ask (x.next n) (n-m) y c):Ask x n y c:=fun P c0 c1 c2 c3=>c3 x n m y c h0 h1 (h2 P c0 c1 c2 c3)
theorem Ask.ind {motive:∀ i0 i1 i2 i3,Ask i0 i1 i2 i3→Prop} (done:∀ x,motive _ _ _ _ (Ask.done x)) (fail:∀ x n h0 h1,motive _ _ _ _ (Ask.fail x n h0 h1)) (over:∀ x n m h0 h1,motive _ _ _ _ (Ask.over x n m h0 h1)) (more:∀ x n m y c h0 h1 h2,motive _ _ _ _ h2→motive _ _ _ _ (Ask.more x n m y c h0 h1 h2)) {i0 i1 i2 i3} (h:Ask i0 i1 i2 i3):motive _ _ _ _ h:=by
 obtain ⟨_,q⟩:=h (fun i0 i1 i2 i3=>∃ h,motive i0 i1 i2 i3 h) (fun x=>⟨_,done x⟩) (fun x n h0 h1=>⟨_,fail x n h0 h1⟩) (fun x n m h0 h1=>⟨_,over x n m h0 h1⟩) (fun x n m y c h0 h1 h2=>h2.elim fun h2 q2=>⟨_,more x n m y c h0 h1 h2 q2⟩)
 exact q
theorem rd_some {x:Src} {n m:Nat} {e:Bool} (hx:x.at_≤x.s.size) (h:x.rd n=some (m,e)):m≤n∧x.at_+m≤x.s.size∧(e=true→m=0∧x.at_=x.s.size):=by
 unfold rd srcGive at h
 split at h
 ·cases h
 ·rename_i q hq
  have hq:=sinkN_le hq
  split at h
  ·cases h;exact ⟨by omega,by omega,fun e=>by cases e⟩
  ·split at h
   ·rename_i he
    cases h;exact ⟨by omega,by omega,fun _=>⟨rfl,he⟩⟩
   ·cases h
    refine ⟨?_,?_,fun e=>by cases e⟩
    ·split <;> omega
    ·split <;> omega
theorem next_at {x:Src} {n m:Nat} {e:Bool} (h:x.rd n=some (m,e)):(x.next n).at_=x.at_+m:=by
 show srcAt x.at_ (x.rd n)=_
 rw[h]
 rfl
theorem next_none {x:Src} {n:Nat} (h:x.rd n=none):(x.next n).at_=x.at_:=by
 show srcAt x.at_ (x.rd n)=_
 rw[h]
 rfl
theorem sinkAt_le (plan:List Int) (k:Nat):k≤sinkAt plan k∧sinkAt plan k≤k+1∧(k≤plan.length→sinkAt plan k≤plan.length):=by
 unfold sinkAt
 split
 ·exact ⟨by omega,by omega,fun _=>by omega⟩
 ·exact ⟨by omega,by omega,fun h=>h⟩
theorem meas {x:Src} {n m:Nat} (hx:x.at_≤x.s.size) (hn:0<n) (h:x.rd n=some (m,false)):(x.plan.length-(x.next n).step)+(n-m)<(x.plan.length-x.step)+n:=by
 have hm:=rd_some hx h
 show (x.plan.length-sinkAt x.plan x.step)+(n-m)<_
 unfold sinkAt
 by_cases hp:x.step<x.plan.length
 ·rw[if_pos hp];omega
 ·rw[if_neg hp]
  have h0:0<m:=by
   unfold rd srcGive sinkN at h
   rw[if_neg hp] at h
   simp only at h
   rw[if_neg (by omega)] at h
   split at h
   ·cases h
   ·rename_i he
    cases h
    split <;> omega
  omega
structure Left (x:Src) (n:Nat) (y:Src) (c:Nat):Prop where
 s:y.s=x.s
 plan:y.plan=x.plan
 ge:x.at_≤y.at_
 le:y.at_≤x.at_+n
 size:y.at_≤y.s.size
 step:x.step≤y.step∧(x.step≤x.plan.length→y.step≤x.plan.length)
 all:c=0→y.at_=x.at_+n
 over:c=1→y.at_=x.s.size∧y.at_<x.at_+n
 code:c≤2
 short:c≠0→y.at_<x.at_+n
theorem Ask.left {x y:Src} {n c:Nat} (h:Ask x n y c) (hx:x.at_≤x.s.size):Left x n y c:=by
 induction h using Src.Ask.ind with
 | done x=>exact ⟨rfl,rfl,Nat.le_refl _,Nat.le_refl _,hx,⟨Nat.le_refl _,fun h=>h⟩,fun _=>rfl,(fun h=>by cases h),by decide,fun h=>absurd rfl h⟩
 | fail x n hn h=>
  have:=sinkAt_le x.plan x.step
  have e:=next_none h
  exact ⟨rfl,rfl,by omega,by omega,by rw[e];exact hx,⟨this.1,this.2.2⟩,(fun h=>by cases h),(fun h=>by cases h),by decide,fun _=>by omega⟩
 | over x n m hn h=>
  have:=sinkAt_le x.plan x.step
  have e:=next_at h
  obtain ⟨h1,h2,h3⟩:=rd_some hx h
  obtain ⟨rfl,h4⟩:=h3 rfl
  exact ⟨rfl,rfl,by omega,by omega,by rw[e];exact h2,⟨this.1,this.2.2⟩,(fun h=>by cases h),(fun _=>⟨by omega,by omega⟩),by decide,fun _=>by omega⟩
 | more x n m y c hn h ha ih=>
  have:=sinkAt_le x.plan x.step
  have e:=next_at h
  obtain ⟨h1,h2,_⟩:=rd_some hx h
  have ih:=ih (by rw[e];exact h2)
  refine ⟨ih.s,ih.plan,by have:=ih.ge;omega,by have:=ih.le;omega,ih.size,⟨Nat.le_trans this.1 ih.step.1,fun h=>ih.step.2 (this.2.2 h)⟩,fun h=>by have:=ih.all h;omega,fun h=>⟨(ih.over h).1,by have:=(ih.over h).2;omega⟩,ih.code,fun h=>by have:=ih.short h;omega⟩
def Calm (plan:List Int):Prop:=∀ i,0≤plan.getD i 0
theorem calm_rd {x:Src} (hc:Calm x.plan) (n:Nat):x.rd n≠none:=by
 unfold rd srcGive
 split
 ·rename_i h
  unfold sinkN at h
  split at h
  ·split at h
   ·rename_i h2
    have:=hc x.step
    omega
   ·cases h
  ·cases h
 ·split
  ·exact fun h=>by cases h
  ·split
   ·exact fun h=>by cases h
   ·exact fun h=>by cases h
theorem Ask.calm {x y:Src} {n c:Nat} (h:Ask x n y c) (hc:Calm x.plan):c≠2:=by
 induction h using Src.Ask.ind with
 | done=>decide
 | fail x n _ h=>exact fun _=>calm_rd hc n h
 | over=>decide
 | more x n m y c hn h ha ih=>exact ih hc
theorem Ask.calm_all {x y:Src} {n c:Nat} (h:Ask x n y c) (hc:Calm x.plan) (hx:x.at_≤x.s.size):(x.at_+n≤x.s.size→c=0∧y.at_=x.at_+n)∧(x.s.size<x.at_+n→c=1∧y.at_=x.s.size):=by
 have h2:=h.calm hc
 have L:=h.left hx
 have hz:=L.size
 rw[L.s] at hz
 have hcode:=L.code
 rcases Nat.lt_trichotomy c 1 with h1 | h1 | h1
 ·have h0:c=0:=by omega
  have:=L.all h0
  exact ⟨fun _=>⟨h0,this⟩,fun _=>by omega⟩
 ·have:=L.over h1
  exact ⟨fun _=>by omega,fun _=>⟨h1,this.1⟩⟩
 ·omega
def Top (T:List UInt8) (i0:Src) (i1:Nat) (i2:Src) (i3:Nat) (i4:Nat):Prop:=∀ P:Src→Nat→Src→Nat→Nat→Prop,(∀ (x:Src) (k:Nat),284≤k→P x k x k 0)→(∀ (x y:Src) (k:Nat),k<284→Ask x 1 y 2→P x k y k 2)→(∀ (x y:Src) (k:Nat),k<284→Ask x 1 y 1→P x k y k 1)→(∀ (x y:Src) (k:Nat),k<284→Ask x 1 y 0→Hd.wholeAt T k→P x k y (k+1) 0)→(∀ (x y z:Src) (k j c:Nat),k<284→Ask x 1 y 0→¬ Hd.wholeAt T k→P y (k+1) z j c→P x k z j c)→P i0 i1 i2 i3 i4
theorem Top.full {T:List UInt8} (x:Src) (k:Nat) (h0:284≤k):Top T x k x k 0:=fun _ c0 _ _ _ _=>c0 x k h0
theorem Top.fail {T:List UInt8} (x y:Src) (k:Nat) (h0:k<284) (h1:Ask x 1 y 2):Top T x k y k 2:=fun _ _ c1 _ _ _=>c1 x y k h0 h1
theorem Top.over {T:List UInt8} (x y:Src) (k:Nat) (h0:k<284) (h1:Ask x 1 y 1):Top T x k y k 1:=fun _ _ _ c2 _ _=>c2 x y k h0 h1
theorem Top.hit {T:List UInt8} (x y:Src) (k:Nat) (h0:k<284) (h1:Ask x 1 y 0) (h2:Hd.wholeAt T k):Top T x k y (k+1) 0:=fun _ _ _ _ c3 _=>c3 x y k h0 h1 h2
theorem Top.more {T:List UInt8} (x y z:Src) (k j c:Nat) (h0:k<284) (h1:Ask x 1 y 0) (h2:¬ Hd.wholeAt T k) (h3:Top T y (k+1) z j c):Top T x k z j c:=fun P c0 c1 c2 c3 c4=>c4 x y z k j c h0 h1 h2 (h3 P c0 c1 c2 c3 c4)
theorem Top.ind {T:List UInt8} {motive:∀ i0 i1 i2 i3 i4,Top T i0 i1 i2 i3 i4→Prop} (full:∀ x k h0,motive _ _ _ _ _ (Top.full x k h0)) (fail:∀ x y k h0 h1,motive _ _ _ _ _ (Top.fail x y k h0 h1)) (over:∀ x y k h0 h1,motive _ _ _ _ _ (Top.over x y k h0 h1)) (hit:∀ x y k h0 h1 h2,motive _ _ _ _ _ (Top.hit x y k h0 h1 h2)) (more:∀ x y z k j c h0 h1 h2 h3,motive _ _ _ _ _ h3→motive _ _ _ _ _ (Top.more x y z k j c h0 h1 h2 h3)) {i0 i1 i2 i3 i4} (h:Top T i0 i1 i2 i3 i4):motive _ _ _ _ _ h:=by
 obtain ⟨_,q⟩:=h (fun i0 i1 i2 i3 i4=>∃ h,motive i0 i1 i2 i3 i4 h) (fun x k h0=>⟨_,full x k h0⟩) (fun x y k h0 h1=>⟨_,fail x y k h0 h1⟩) (fun x y k h0 h1=>⟨_,over x y k h0 h1⟩) (fun x y k h0 h1 h2=>⟨_,hit x y k h0 h1 h2⟩) (fun x y z k j c h0 h1 h2 h3=>h3.elim fun h3 q3=>⟨_,more x y z k j c h0 h1 h2 h3 q3⟩)
 exact q
structure TLeft (T:List UInt8) (x:Src) (k:Nat) (y:Src) (j c:Nat):Prop where
 s:y.s=x.s
 plan:y.plan=x.plan
 ge:k≤j
 at_:y.at_=x.at_+(j-k)
 le:k≤284→j≤284
 size:y.at_≤y.s.size
 step:x.step≤x.plan.length→y.step≤x.plan.length
 none:∀ i,k≤i→i+1<j→¬ Hd.wholeAt T i
 over:c=1→y.at_=x.s.size∧∀ i,k≤i→i<j→¬ Hd.wholeAt T i
 code:c≤2
theorem Top.left {T:List UInt8} {x y:Src} {k j c:Nat} (h:Top T x k y j c) (hx:x.at_≤x.s.size):TLeft T x k y j c:=by
 induction h using Src.Top.ind with
 | full x k hk=>exact ⟨rfl,rfl,Nat.le_refl _,by omega,fun h=>h,hx,fun h=>h,fun i h1 h2=>by omega,(fun h=>by cases h),by decide⟩
 | fail x y k hk ha=>
  have L:=ha.left hx
  have hc:=L.ge
  have hle:=L.le
  have hs:=L.short (by decide)
  exact ⟨L.s,L.plan,Nat.le_refl _,by omega,fun h=>h,L.size,L.step.2,fun i h1 h2=>by omega,(fun h=>by cases h),by decide⟩
 | over x y k hk ha=>
  have L:=ha.left hx
  have h1:=(L.over rfl)
  have hge:=L.ge
  exact ⟨L.s,L.plan,Nat.le_refl _,by omega,fun h=>h,L.size,L.step.2,fun i h1 h2=>by omega,fun _=>⟨h1.1,fun i h1 h2=>by omega⟩,by decide⟩
 | hit x y k hk ha hw=>
  have L:=ha.left hx
  have h1:=L.all rfl
  exact ⟨L.s,L.plan,by omega,by omega,fun h=>by omega,L.size,L.step.2,fun i h1 h2=>by omega,(fun h=>by cases h),by decide⟩
 | more x y z k j c hk ha hw ht ih=>
  have L:=ha.left hx
  have h1:=L.all rfl
  have ih:=ih L.size
  have hge:=ih.ge
  have hat:=ih.at_
  refine ⟨ih.s.trans L.s,ih.plan.trans L.plan,by omega,by omega,fun h=>ih.le (by omega),ih.size,fun h=>by rw[←L.plan];exact ih.step (by rw[L.plan];exact L.step.2 h),fun i h1 h2=>?_,fun h=>⟨by rw[←L.s];exact (ih.over h).1,fun i h1 h2=>?_⟩,ih.code⟩
  ·rcases Nat.eq_or_lt_of_le h1 with e | e
   ·exact e ▸ hw
   ·exact ih.none i (by omega) h2
  ·rcases Nat.eq_or_lt_of_le h1 with e | e
   ·exact e ▸ hw
   ·exact (ih.over h).2 i (by omega) h2
end Src
namespace Ref
def body (m:List UInt8) (ss bs:List ByteArray) (i:Nat):List UInt8 × Int:=Box.opened (keyL m (Hd.at_ ss i) inWrap) (nought 12) [] (Hd.at_ bs i)
def unw (m:List UInt8) (ss bs:List ByteArray):Nat→Nat→List UInt8 × Int
 | 0,_=>([],7)
 | f+1,i=>if (body m ss bs i).2=0 then ((body m ss bs i).1,0) else unw m ss bs f (i+1)
def unwA (m:List UInt8) (ss bs:List ByteArray):List UInt8 × Int:=unw m ss bs ss.length 0
def opnA (m:List UInt8) (t:ByteArray):List UInt8 × Int:=
 if (Hd.parAns t).2≠0 then ([],(Hd.parAns t).2)
 else if (unwA m (Hd.parAns t).1.ss (Hd.parAns t).1.bs).2≠0 then ([],(unwA m (Hd.parAns t).1.ss (Hd.parAns t).1.bs).2)
 else if macL (keyL (unwA m (Hd.parAns t).1.ss (Hd.parAns t).1.bs).1 [] inHead) (t.data.toList.take (t.size-45))≠(Hd.parAns t).1.mac.data.toList then ([],8)
 else ((unwA m (Hd.parAns t).1.ss (Hd.parAns t).1.bs).1,0)
theorem unw_code (m:List UInt8) (ss bs:List ByteArray):∀ f i,(unw m ss bs f i).2=0∨unw m ss bs f i=([],7)
 | 0,_=>.inr rfl
 | f+1,i=>by
  rw[unw]
  split
  ·exact .inl rfl
  ·exact unw_code m ss bs f (i+1)
theorem opened_len (key nonce aad bx:List UInt8):(Box.opened key nonce aad bx).1.length≤bx.length:=by
 unfold Box.opened
 split
 ·exact Nat.zero_le _
 ·split
  ·show (Box.bare key nonce bx).length≤_
   unfold Box.bare
   rw[Box.xor_len]
   omega
  ·exact Nat.zero_le _
theorem opened_len2 {key nonce aad bx:List UInt8} (h:(Box.opened key nonce aad bx).2=0):(Box.opened key nonce aad bx).1.length+16=bx.length:=by
 have e:=congrArg List.length (Box.opened_ok key nonce aad bx h)
 rw[Box.sealed_len] at e
 exact e
theorem opened_code (key nonce aad bx:List UInt8):(Box.opened key nonce aad bx).2=0∨(Box.opened key nonce aad bx).2=4:=by
 unfold Box.opened
 split
 ·exact .inr rfl
 ·split
  ·exact .inl rfl
  ·exact .inr rfl
theorem unw_len (m:List UInt8) (ss bs:List ByteArray) (hb:∀ i,(Hd.at_ bs i).length≤32):∀ f i,(unw m ss bs f i).1.length≤32
 | 0,_=>Nat.zero_le _
 | f+1,i=>by
  rw[unw]
  split
  ·exact Nat.le_trans (opened_len _ _ _ _) (hb i)
  ·exact unw_len m ss bs hb f (i+1)
theorem opnC_cases (key:List UInt8) (n:Nat) (last:Bool) (bx:List UInt8):(opnC key n last bx).2=0∧(opnC key n last bx).1.length+16=bx.length∧Box.sealed key (nonce n last) [] (opnC key n last bx).1=bx∧(last=true→0<n→(opnC key n last bx).1≠[])∨((opnC key n last bx).2≠0∧(opnC key n last bx).1=[]):=by
 unfold opnC
 by_cases h:(Box.opened key (nonce n last) [] bx).2=0
 ·rw[if_pos h]
  by_cases h2:last=true∧0<n∧(Box.opened key (nonce n last) [] bx).1=[]
  ·rw[if_pos h2];exact .inr ⟨(by decide),rfl⟩
  ·rw[if_neg h2];exact .inl ⟨rfl,opened_len2 h,Box.opened_ok _ _ _ _ h,fun h3 h4 h5=>h2 ⟨h3,h4,h5⟩⟩
 ·rw[if_neg h]
  split
  ·exact .inr ⟨(by decide),rfl⟩
  ·split
   ·exact .inr ⟨(by decide),rfl⟩
   ·exact .inr ⟨(by decide),rfl⟩
theorem opnC_num (key:List UInt8) (n:Nat) (last:Bool) (bx:List UInt8):(opnC key n last bx).2=0∨(opnC key n last bx).2=9∨(last=true∧((opnC key n last bx).2=12∨(opnC key n last bx).2=10))∨(last=false∧(opnC key n last bx).2=11):=by
 unfold opnC
 split
 ·split
  ·rename_i h;exact .inr (.inr (.inl ⟨h.1,.inl rfl⟩))
  ·exact .inl rfl
 ·split
  ·exact .inr (.inl rfl)
  ·split
   ·rename_i h;exact .inr (.inr (.inl ⟨h,.inr rfl⟩))
   ·rename_i h;exact .inr (.inr (.inr ⟨by simpa using h,rfl⟩))
structure Rd where
 x:Src
 key:List UInt8
 n:Nat
 ahead:List UInt8
 text:List UInt8
 e:Int
def Rd.opn (r:Rd) (y:Src) (c:Nat):Rd:=
 if c=2 then ⟨y,[],0,[],[],17⟩
 else if r.ahead.length+(y.at_-r.x.at_)=0 then ⟨y,[],0,[],[],10⟩
 else if r.ahead.length+(y.at_-r.x.at_)≤32 then
  (if (opnC r.key r.n true (r.ahead++(r.x.s.extract r.x.at_ y.at_).data.toList)).2≠0 then ⟨y,[],0,[],[],(opnC r.key r.n true (r.ahead++(r.x.s.extract r.x.at_ y.at_).data.toList)).2⟩
  else ⟨y,[],0,[],(opnC r.key r.n true (r.ahead++(r.x.s.extract r.x.at_ y.at_).data.toList)).1,13⟩)
 else if (opnC r.key r.n false ((r.ahead++(r.x.s.extract r.x.at_ y.at_).data.toList).take 32)).2≠0 then ⟨y,[],0,[],[],(opnC r.key r.n false ((r.ahead++(r.x.s.extract r.x.at_ y.at_).data.toList).take 32)).2⟩
 else ⟨y,r.key,r.n+1,(r.ahead++(r.x.s.extract r.x.at_ y.at_).data.toList).drop 32,(opnC r.key r.n false ((r.ahead++(r.x.s.extract r.x.at_ y.at_).data.toList).take 32)).1,0⟩
theorem Rd.opn_x (r:Rd) (y:Src) (c:Nat):(r.opn y c).x=y:=by
 unfold Rd.opn
 split
 ·rfl
 ·split
  ·rfl
  ·split
   ·split <;> rfl
   ·split <;> rfl
def Rd.Fill (r i0:Rd):Prop:=∀ P:Rd→Prop,(¬ (r.text=[]∧r.e=0)→P r)→(∀ (y:Src) (c:Nat),r.text=[]→r.e=0→Src.Ask r.x (33-r.ahead.length) y c→P (r.opn y c))→P i0
theorem Rd.Fill.stay (r:Rd) (h0:¬ (r.text=[]∧r.e=0)):Rd.Fill r r:=fun _ c0 _=>c0 h0
theorem Rd.Fill.opn (r:Rd) (y:Src) (c:Nat) (h0:r.text=[]) (h1:r.e=0) (h2:Src.Ask r.x (33-r.ahead.length) y c):Rd.Fill r (r.opn y c):=fun _ _ c1=>c1 y c h0 h1 h2
theorem Rd.Fill.elim {r:Rd} {motive:∀ i0,Rd.Fill r i0→Prop} (stay:∀ h0,motive _ (Rd.Fill.stay r h0)) (opn:∀ y c h0 h1 h2,motive _ (Rd.Fill.opn r y c h0 h1 h2)) {i0} (h:Rd.Fill r i0):motive _ h:=by
 obtain ⟨_,q⟩:=h (fun i0=>∃ h,motive i0 h) (fun h0=>⟨_,stay h0⟩) (fun y c h0 h1 h2=>⟨_,opn y c h0 h1 h2⟩)
 exact q
def Rd.ans (r:Rd) (n:Nat):List UInt8 × Int:=if r.text=[] then ([],r.e) else (r.text.take n,0)
def Rd.tell (r:Rd) (n:Nat):Rd:={ r with text:=r.text.drop n }
end Ref
structure SrcRep (b g:Nat) (x:Src) (w:World):Prop where
 hb:Blk w b 114 (x.cells g)
 hg:Blk w g 3 (intV x.plan)
 sz:x.s.size≤1099511627776
 at_:x.at_≤x.s.size
 pl:x.plan.length≤1099511627776
 st:x.step≤x.plan.length
theorem SrcRep.ne {b g:Nat} {x:Src} {w:World} (h:SrcRep b g x w):g≠b:=by
 intro e
 have hb:=h.hb
 subst e
 have h:=hb.symm.trans h.hg
 simp[Src.cells,sourceCells] at h
theorem srcNext {b g:Nat} {x:Src} {w:World} (h:SrcRep b g x w) (n:Nat) (hn:0<n) (hn2:n≤1000):
  Calls Tryz.prog 94 #[.pointer (some ⟨b,0,none⟩),.int .i64 (n:Nat)] w fun e w'=>
   e = .returned (srcAns x.s x.at_ (x.rd n))∧SrcRep b g (x.next n) w'∧w.grownBy w' (some b):=by
 have hsz:=h.sz
 have hst:=h.st
 have hpl:=h.pl
 refine (srcRead_any b g x.s x.plan x.at_ x.step n w h.hb h.hg (by omega) h.at_ (by omega) hn (by omega)).mono ?_
 rintro e w' ⟨rfl,hB,hG⟩
 refine ⟨rfl,⟨hB,h.hg.grown hG (fun e=>by injection e with e;exact h.ne e),h.sz,?_,h.pl,(Src.sinkAt_le _ _).2.2 h.st⟩,hG⟩
 cases hr:x.rd n with
 | none=>rw[Src.next_none hr];exact h.at_
 | some p=>
  obtain ⟨m,e⟩:=p
  rw[Src.next_at hr]
  exact (Src.rd_some h.at_ hr).2.1
theorem ext_more (s:ByteArray) (a b c:Nat) (h1:a≤b) (h2:b≤c) (h3:c≤s.size):s.extract a b++s.extract b c=s.extract a c:=by
 apply ba_ext
 rw[ba_list,sub_list,sub_list,sub_list]
 obtain ⟨j,rfl⟩:∃ j,b=a+j:=⟨b-a,by omega⟩
 obtain ⟨k,rfl⟩:∃ k,c=a+j+k:=⟨c-(a+j),by omega⟩
 rw[show a+j-a=j by omega,show a+j+k-(a+j)=k by omega,show a+j+k-a=j+k by omega,List.take_add,List.drop_drop]
theorem srcText_ext (s:ByteArray) (a m:Nat):srcText s a m=s.extract a (a+m):=by
 unfold srcText
 split
 ·rename_i h
  subst h
  exact ba_ext (by rw[sub_list];simp)
 ·rfl
def gotS (got:ByteArray) (x y:Src):ByteArray:=got++x.s.extract x.at_ y.at_
theorem gotS_size {got:ByteArray} {x y:Src} (h1:x.at_≤y.at_) (h2:y.at_≤x.s.size):(gotS got x y).size=got.size+(y.at_-x.at_):=by
 unfold gotS
 rw[ba_sz,ByteArray.size_extract]
 omega
theorem gotS_more {got:ByteArray} {x y z:Src} (hs:y.s=x.s) (h1:x.at_≤y.at_) (h2:y.at_≤z.at_) (h3:z.at_≤x.s.size):gotS got x y++y.s.extract y.at_ z.at_=gotS got x z:=by
 unfold gotS
 rw[hs]
 apply ba_ext
 rw[ba_list,ba_list,ba_list,List.append_assoc,←ba_list,ext_more _ _ _ _ h1 h2 h3]
def stepOf (b:Nat) (w:World):Nat:=match w.cell? ⟨b,3,none⟩ with
 | some (.int _ k)=>k.toNat
 | _=>0
theorem SrcRep.step {b g:Nat} {x:Src} {w:World} (h:SrcRep b g x w):stepOf b w=x.step:=by
 unfold stepOf
 rw[h.hb.cell (i:=3) (show (x.cells g)[3]? = some (.int .i64 ((x.step:Nat):Int)) from rfl)]
 simp
def GatR (b g:Nat) (x:Src) (got:ByteArray) (n:Nat) (w:World) (v:Value) (wr:World):Prop:=∃ y:Src,v = .string (gotS got x y)∧SrcRep b g y wr∧w.grownBy wr (some b)∧y.s=x.s∧y.plan=x.plan∧x.at_≤y.at_∧got.size+(y.at_-x.at_)≤n∧(∀ z c,Src.Ask y (n-(got.size+(y.at_-x.at_))) z c→Src.Ask x (n-got.size) z c)
set_option maxRecDepth 100000 in
set_option maxHeartbeats 1600000 in
theorem gather_any (b g:Nat) (x:Src) (got:ByteArray) (n:Nat) (w:World) (h:SrcRep b g x w) (hgot:got.size≤n) (hn:n≤1000):
  Calls Tryz.prog 60 #[.pointer (some ⟨b,0,none⟩),.string got,.int .i64 (n:Nat)] w fun e w'=>
   ∃ y c,Src.Ask x (n-got.size) y c∧e = .returned (.tuple #[.string (if c=2 then ⟨#[]⟩ else gotS got x y),.int .i64 (if c=2 then 17 else 0)])∧SrcRep b g y w'∧w.grownBy w' (some b):=by
 have H:=hide h
 have hxs:=h.sz
 have hxa:=h.at_
 clear h
 go_enter Tryz.func60,Tryz.ntmps60
 go_wp2
 go_loopw [1] (fun v wr=>GatR b g x got n w v wr) (fun v wr=>(x.plan.length-stepOf b wr)+(n-strLen v))
 case atStart=>exact ⟨x,congrArg Value.string (ba_ext (by unfold gotS;rw[ba_list,sub_list];simp)),H.out,World.grownBy.refl _ _,rfl,rfl,Nat.le_refl _,by omega,fun z c h=>by rw[Nat.sub_self,Nat.add_zero] at h;exact h⟩
 case round=>
  obtain ⟨y,rfl,hr,hG,hys,hyp,hge,hle,hk⟩:=hrel
  have hya:=hr.at_
  rw[hys] at hya
  have hgs:=gotS_size (got:=got) hge hya
  have hstp:=hr.step
  have HSP:=hide hstp
  have HR:=hide hr
  have HG:=hide hG
  have HK:=hide hk
  have HGS:=hide hgs
  obtain ⟨cur,hcur⟩:∃ c,gotS got x y=c:=⟨_,rfl⟩
  obtain ⟨q,hq⟩:∃ q:Nat,got.size+(y.at_-x.at_)=q:=⟨_,rfl⟩
  rw[hq] at hle HK hgs
  rw[hcur] at hgs
  rw[hcur]
  have HCUR:=hide hcur
  have HQ:=hide hq
  clear hr hG hk hstp hcur hq
  by_cases hlt:q<n
  ·obtain ⟨d,hd⟩:∃ d:Nat,n-q=d:=⟨_,rfl⟩
   have td:(n:Int)-(q:Int)=(d:Int):=by omega
   have jl:(q:Int)<(n:Int):=by omega
   have hd0:0<d:=by omega
   have hd1:d≤1000:=by omega
   have HRD:=hide (srcNext HR.out d hd0 hd1)
   have HLT:=hide hlt
   have HD:=hide hd
   clear hlt hd
   cases hrd:y.rd d with
   | none=>
    rw[hrd] at HRD
    simp only[srcAns] at HRD
    have HX:=hide hrd
    clear hrd
    go_wp2_with fail
    refine HRD.out.mono ?_
    rintro e w1 ⟨rfl,hr1,hg1⟩
    have HR1:=hide hr1
    have HG1:=hide (grown_trans HG.out hg1 (fun k hk=>.inr (by injection hk with hk;exact hk.symm)))
    clear hr1 hg1 HRD
    go_wp2
    refine bodyPost_ret (results_tmp2 rfl _ _ _) rfl ?_
    exact ⟨y.next d,2,HK.out _ _ (by rw[HD.out];exact Src.Ask.fail y d hd0 HX.out),rfl,HR1.out,HG1.out⟩
   | some p=>
    obtain ⟨m,ee⟩:=p
    rw[hrd] at HRD
    have HX:=hide hrd
    have hms:=Src.rd_some HR.out.at_ hrd
    have hna:=Src.next_at hrd
    rw[hys] at hms
    simp only[srcAns] at HRD
    clear hrd
    cases ee with
    | true=>
     generalize srcText y.s y.at_ m=pc0 at *
     have HM0:=hide (hms.2.2 rfl).1
     go_wp2_with fail
     refine HRD.out.mono ?_
     rintro e w1 ⟨rfl,hr1,hg1⟩
     have HR1:=hide hr1
     have HG1:=hide (grown_trans HG.out hg1 (fun k hk=>.inr (by injection hk with hk;exact hk.symm)))
     clear hr1 hg1 HRD
     go_wp2
     refine bodyPost_ret (results_tmp2 rfl _ _ _) rfl ?_
     refine ⟨y.next d,1,HK.out _ _ (by rw[HD.out];exact Src.Ask.over y d m hd0 HX.out),?_,HR1.out,HG1.out⟩
     have e1:gotS got x (y.next d)=cur:=by
      rw[←HCUR.out]
      unfold gotS
      rw[hna,HM0.out,Nat.add_zero]
     rw[e1]
     rfl
    | false=>
     have hmz:(srcText y.s y.at_ m).size≤1000:=by rw[srcText_ext,ByteArray.size_extract];omega
     have HT:=hide (show srcText y.s y.at_ m=y.s.extract y.at_ (y.at_+m) from srcText_ext _ _ _)
     obtain ⟨pc,hpc⟩:∃ c,srcText y.s y.at_ m=c:=⟨_,rfl⟩
     rw[hpc] at HRD hmz HT
     have HPC:=hide hpc
     have u1:¬ (9223372036854775807<q+pc.size):=by omega
     clear hpc
     go_wp2_with fail
     refine HRD.out.mono ?_
     rintro e w1 ⟨rfl,hr1,hg1⟩
     have HR1:=hide hr1
     have HG1:=hide (grown_trans HG.out hg1 (fun k hk=>.inr (by injection hk with hk;exact hk.symm)))
     clear hr1 hg1 HRD
     go_wp2
     have e1:cur++pc=gotS got x (y.next d):=by
      rw[HT.out,←HCUR.out,←hna]
      exact gotS_more hys hge (by rw[hna];omega) (by rw[hna];omega)
     have hq:=HQ.out
     have hd:=HD.out
     go_roundw
     case rel=>
      refine ⟨y.next d,congrArg Value.string e1,HR1.out,HG1.out,hys,hyp,by rw[hna];omega,by rw[hna];omega,fun z c hz=>HK.out z c ?_⟩
      rw[hd]
      refine Src.Ask.more y d m z c hd0 HX.out ?_
      rw[show d-m=n-(got.size+((y.next d).at_-x.at_)) by rw[hna];omega]
      exact hz
     case measure=>
      have h1:=Src.meas HR.out.at_ hd0 HX.out
      have h2:=HR1.out.step
      have h3:=HSP.out
      have h4:(cur++pc).size=q+m:=by rw[e1,gotS_size (by rw[hna];omega) (by rw[hna];omega),hna];omega
      rw[hyp] at h1
      show (x.plan.length-stepOf b w1)+(n-(cur++pc).size)<(x.plan.length-stepOf b _)+(n-cur.size)
      omega
  ·have hqn:q=n:=by omega
   have jl:¬ (q:Int)<(n:Int):=by omega
   go_wp2
   refine bodyPost_ret (results_tmp2 rfl _ _ _) rfl ?_
   exact ⟨y,0,HK.out _ _ (by rw[hqn,Nat.sub_self];exact Src.Ask.done y),by rw[HCUR.out];rfl,HR.out,HG.out⟩
theorem str_ne {a b:ByteArray} (h:a.data.toList≠b.data.toList):(a.toList==b.toList)=false:=by
 rw[beq_eq_false_iff_ne,ByteArray.toList_eq,ByteArray.toList_eq]
 exact h
theorem str_neL {a:ByteArray} {l:List UInt8} (h:a.data.toList≠l):(a.toList==l)=false:=by
 rw[beq_eq_false_iff_ne,ByteArray.toList_eq]
 exact h
set_option maxHeartbeats 400000 in
theorem isMarked_any (l:ByteArray) (w:World) (hl:l.size≤1000):
  Calls Tryz.prog 91 #[.string l] w fun e w'=>e = .returned (.bool (decide (3≤l.size∧l.data.toList.take 3=Hd.mark)))∧w'=w:=by
 by_cases h3:3≤l.size
 ·have j:(3:Int)≤(l.size:Int):=by omega
  by_cases hm:l.data.toList.take 3=Hd.mark
  ·have he:l.extract 0 3=⟨#[45,45,45]⟩:=ba_ext (by rw[ext_take,hm];rfl)
   rw[decide_eq_true ⟨h3,hm⟩]
   clear hm
   go_enter Tryz.func91,Tryz.ntmps91
   go_wp2
   go_ret
   exact ⟨rfl,rfl⟩
  ·have hz:((l.extract 0 3).toList==[45,45,45])=false:=str_neL (by rw[ext_take];exact hm)
   rw[decide_eq_false (fun h=>hm h.2)]
   clear hm
   go_enter Tryz.func91,Tryz.ntmps91
   go_wp2
   go_ret
   exact ⟨rfl,rfl⟩
 ·have j:¬ (3:Int)≤(l.size:Int):=by omega
  rw[decide_eq_false (fun h=>h3 h.1)]
  go_enter Tryz.func91,Tryz.ntmps91
  go_wp2
  go_ret
  exact ⟨rfl,rfl⟩
def topS (x:Src) (j:Nat):ByteArray:=x.s.extract x.at_ (x.at_+j)
def Src.rest (x:Src):List UInt8:=x.s.data.toList.drop x.at_
theorem topS_list (x:Src) (j:Nat):(topS x j).data.toList=x.rest.take j:=by
 unfold topS Src.rest
 rw[sub_list,Nat.add_sub_cancel_left]
theorem topS_size {x:Src} {j:Nat} (h:x.at_+j≤x.s.size):(topS x j).size=j:=by
 unfold topS
 rw[ByteArray.size_extract]
 omega
theorem topS_one {x y z:Src} {k:Nat} (hs:y.s=x.s) (hy:y.at_=x.at_+k) (hz:z.at_=y.at_+1) (hle:z.at_≤x.s.size):gotS ⟨#[]⟩ y z=⟨#[x.rest.getD k 0]⟩∧topS x k++⟨#[x.rest.getD k 0]⟩=topS x (k+1):=by
 have hlt:x.at_+k<x.s.data.toList.length:=by rw[ba_len];omega
 have hg:x.rest.getD k 0=x.s.data.toList[x.at_+k]:=by
  unfold Src.rest
  rw[List.getD_eq_getElem?_getD,List.getElem?_drop,List.getElem?_eq_getElem hlt]
  rfl
 constructor
 ·apply ba_ext
  unfold gotS
  rw[ba_list,sub_list,hs,hz,hy,show x.at_+k+1-(x.at_+k)=1 by omega,hg,List.drop_eq_getElem_cons hlt]
  rfl
 ·apply ba_ext
  rw[ba_list,topS_list,topS_list]
  have h2:k<x.rest.length:=by unfold Src.rest;rw[List.length_drop];omega
  rw[List.take_succ_eq_append_getElem h2,List.getD_eq_getElem?_getD,List.getElem?_eq_getElem h2]
  rfl
theorem mark_iff (T:List UInt8) (k:Nat) (hk:k<T.length) (h10:T.getD k 0=10):(3≤k+1-Hd.lineAt T k∧((T.take (k+1)).drop (Hd.lineAt T k)).take 3=Hd.mark)↔Hd.wholeAt T k:=by
 have hle:=Hd.lineAt_le T k
 unfold Hd.wholeAt
 generalize Hd.lineAt T k=p at *
 constructor
 ·rintro ⟨h1,h2⟩
  by_cases h3:p+3≤k
  ·refine ⟨h10,h3,?_⟩
   rw[List.drop_take,List.take_take,Nat.min_eq_left (by omega)] at h2
   exact h2
  ·exfalso
   obtain rfl:k=p+2:=by omega
   rw[List.drop_take,List.take_take,Nat.min_eq_left (by omega)] at h2
   have e:=congrArg (fun l=>l.getD 2 0) h2
   rw[List.getD_eq_getElem?_getD,List.getElem?_take,if_pos (by decide),List.getElem?_drop,←List.getD_eq_getElem?_getD,h10] at e
   exact absurd e (by decide)
 ·rintro ⟨_,h1,h2⟩
  refine ⟨by omega,?_⟩
  rw[List.drop_take,List.take_take,Nat.min_eq_left (by omega)]
  exact h2
def TopR (b g:Nat) (x:Src) (w:World) (vo vl:Value) (wr:World):Prop:=∃ (y:Src) (k:Nat),k≤284∧vo = .string (topS x k)∧vl = .int .i64 (Hd.lineAt x.rest k:Nat)∧SrcRep b g y wr∧w.grownBy wr (some b)∧y.s=x.s∧y.plan=x.plan∧y.at_=x.at_+k∧(∀ z j c,Src.Top x.rest y k z j c→Src.Top x.rest x 0 z j c)
set_option maxRecDepth 100000 in
set_option maxHeartbeats 1600000 in
theorem readHeader_any (b g:Nat) (x:Src) (w:World) (h:SrcRep b g x w):
  Calls Tryz.prog 58 #[.pointer (some ⟨b,0,none⟩)] w fun e w'=>
   ∃ y j c,Src.Top x.rest x 0 y j c∧e = .returned (.tuple #[.string (if c=2 then ⟨#[]⟩ else topS x j),.int .i64 (if c=2 then 17 else 0)])∧SrcRep b g y w'∧w.grownBy w' (some b):=by
 have H:=hide h
 have hxs:=h.sz
 have hxa:=h.at_
 clear h
 go_enter Tryz.func58,Tryz.ntmps58
 go_wp2
 go_loopw [4,5] (fun vo vl wr=>TopR b g x w vo vl wr) (fun vo _ _=>284-strLen vo)
 case atStart=>exact ⟨x,0,by decide,congrArg Value.string (ba_ext (by rw[topS_list];rfl)),rfl,H.out,World.grownBy.refl _ _,rfl,rfl,rfl,fun z j c h=>h⟩
 case round=>
  obtain ⟨y,k,hk284,rfl,rfl,hr,hG,hys,hyp,hya,hk⟩:=hrel
  have hyz:=hr.at_
  rw[hys,hya] at hyz
  have hts:=topS_size hyz
  have hll:=Hd.lineAt_le x.rest k
  have HR:=hide hr
  have HG:=hide hG
  have HK:=hide hk
  have HGA:=hide (gather_any b g y ⟨#[]⟩ 1 wr hr (by decide) (by decide))
  obtain ⟨cur,hcur⟩:∃ c,topS x k=c:=⟨_,rfl⟩
  rw[hcur] at hts
  rw[hcur]
  have HCUR:=hide hcur
  obtain ⟨p,hp⟩:∃ p,Hd.lineAt x.rest k=p:=⟨_,rfl⟩
  rw[hp] at hll
  rw[hp]
  have HP:=hide hp
  clear hr hG hk hcur hp
  by_cases hlt:k<284
  ·have jl:(cur.size:Int)<284:=by omega
   have HLT:=hide hlt
   clear hlt
   go_wp2_with fail
   refine HGA.out.mono ?_
   rintro e w1 ⟨z,c,hA,rfl,hz,hg1⟩
   have L:=hA.left HR.out.at_
   have HZ:=hide hz
   have HG1:=hide (grown_trans HG.out hg1 (fun k hk=>.inr (by injection hk with hk;exact hk.symm)))
   have HA:=hide hA
   have hzs:=L.size
   rw[L.s,hys] at hzs
   have hcode:=L.code
   clear hz hg1 hA HGA
   rcases Nat.lt_trichotomy c 1 with hc | hc | hc
   ·obtain rfl:c=0:=by omega
    have hza:z.at_=y.at_+1:=L.all rfl
    obtain ⟨e1,e2⟩:=topS_one hys hya hza hzs
    have hkl:k<x.rest.length:=by unfold Src.rest;rw[List.length_drop,ba_len];omega
    rw[if_neg (by decide),if_neg (by decide),e1]
    rw[HCUR.out] at e2
    obtain ⟨u,hu⟩:∃ u,x.rest.getD k 0=u:=⟨_,rfl⟩
    rw[hu] at e2 ⊢
    have u1:¬ (9223372036854775807<cur.size+1):=by omega
    have z1:((⟨#[u]⟩:ByteArray).toList==[])=false:=str_neL (fun e=>by cases e)
    have z1':([u]==([]:List UInt8))=false:=rfl
    have hsz:(⟨#[u]⟩:ByteArray).size=1:=rfl
    have E2:=hide e2
    have HU:=hide hu
    have HZA:=hide (show z.at_=x.at_+(k+1) by omega)
    have HS:=hide (show z.s=x.s∧z.plan=x.plan from ⟨L.s.trans hys,L.plan.trans hyp⟩)
    have hnx:∀ (vl:Nat),¬ Hd.wholeAt x.rest k→Hd.lineAt x.rest (k+1)=vl→TopR b g x w (.string (cur++⟨#[u]⟩)) (.int .i64 (vl:Nat)) w1:=fun vl hw hv=>⟨z,k+1,HLT.out,congrArg Value.string E2.out,by rw[hv],HZ.out,HG1.out,HS.out.1,HS.out.2,HZA.out,fun z' j c h=>HK.out z' j c (Src.Top.more y z z' k j c HLT.out HA.out hw h)⟩
    have HNX:=hide hnx
    clear e1 e2 hza L hnx hu
    by_cases h10:u=10
    ·subst h10
     obtain ⟨nx,hnx⟩:∃ t,cur++(⟨#[10]⟩:ByteArray)=t:=⟨_,rfl⟩
     have hnz:nx.size=k+1:=by rw[←hnx,E2.out];exact topS_size (by have:=HZA.out;omega)
     have HIM:=hide (fun w=>isMarked_any (nx.extract p (k+1)) w (by rw[ByteArray.size_extract];omega))
     have hsub:(nx.extract p (k+1)).data.toList=(x.rest.take (k+1)).drop (Hd.lineAt x.rest k):=by
      rw[sub_list,←hnx,E2.out,topS_list,HP.out,List.take_of_length_le (by rw[List.length_drop,List.length_take];omega)]
     have hsz2:(nx.extract p (k+1)).size=k+1-Hd.lineAt x.rest k:=by rw[ByteArray.size_extract,HP.out];omega
     have hiff:=mark_iff x.rest k hkl HU.out
     rw[←hsub,←hsz2] at hiff
     by_cases hw:Hd.wholeAt x.rest k
     ·have hd:=decide_eq_true (hiff.2 hw)
      rw[hd] at HIM
      have HW:=hide hw
      have jp:(p:Int)≤((k+1:Nat):Int):=by omega
      clear hd hiff hsub hsz2 hw
      go_wp2_with fail
      refine (HIM.out _).mono ?_
      rintro e w2 ⟨rfl,rfl⟩
      clear HIM
      go_wp2
      refine bodyPost_ret (results_tmp2 rfl _ _ _) rfl ?_
      exact ⟨z,k+1,0,HK.out _ _ _ (Src.Top.hit y z k HLT.out HA.out HW.out),by rw[←hnx,E2.out];rfl,HZ.out,HG1.out⟩
     ·have hd:=decide_eq_false (fun h=>hw (hiff.1 h))
      rw[hd] at HIM
      have HW:=hide hw
      have jp:(p:Int)≤((k+1:Nat):Int):=by omega
      clear hd hiff hsub hsz2 hw
      go_wp2_with fail
      refine (HIM.out _).mono ?_
      rintro e w2 ⟨rfl,rfl⟩
      clear HIM
      go_wp2
      go_roundw
      case rel=>
       have h:=HNX.out (k+1) HW.out (by rw[Hd.lineAt,if_pos HU.out])
       rw[hnx] at h
       exact h
      case measure=>
       have:=HLT.out
       show 284-nx.size<284-cur.size
       omega
    ·have z2:((⟨#[u]⟩:ByteArray).toList==[10])=false:=str_neL (fun e=>h10 (by injection e))
     have z2':([u]==[10])=false:=beq_eq_false_iff_ne.2 (fun e=>h10 (by injection e))
     have hw:¬ Hd.wholeAt x.rest k:=fun h=>h10 (by rw[←HU.out];exact h.1)
     have HW:=hide hw
     have hp2:Hd.lineAt x.rest (k+1)=p:=by rw[Hd.lineAt,if_neg (by rw[HU.out];exact h10),HP.out]
     have HP2:=hide hp2
     clear hw hp2
     go_wp2
     go_roundw
     case rel=>exact HNX.out p HW.out HP2.out
     case measure=>
      have h1:=HLT.out
      have h2:(cur++(⟨#[u]⟩:ByteArray)).size=cur.size+1:=ba_sz _ _
      show 284-(cur++(⟨#[u]⟩:ByteArray)).size<284-cur.size
      omega
   ·subst hc
    obtain ⟨ho1,ho2⟩:=L.over rfl
    have hza:z.at_=y.at_:=by have:=L.ge;omega
    have e1:gotS ⟨#[]⟩ y z=⟨#[]⟩:=ba_ext (by unfold gotS;rw[ba_list,sub_list,hza,Nat.sub_self];rfl)
    rw[if_neg (by decide),if_neg (by decide),e1]
    clear L
    go_wp2
    refine bodyPost_ret (results_tmp2 rfl _ _ _) rfl ?_
    exact ⟨z,k,1,HK.out _ _ _ (Src.Top.over y z k HLT.out HA.out),by rw[HCUR.out];rfl,HZ.out,HG1.out⟩
   ·obtain rfl:c=2:=by omega
    rw[if_pos rfl,if_pos rfl]
    clear L
    go_wp2
    refine bodyPost_ret (results_tmp2 rfl _ _ _) rfl ?_
    exact ⟨z,k,2,HK.out _ _ _ (Src.Top.fail y z k HLT.out HA.out),rfl,HZ.out,HG1.out⟩
  ·obtain rfl:k=284:=by omega
   have jl:¬ (cur.size:Int)<284:=by omega
   clear hlt
   go_wp2
   refine bodyPost_ret (results_tmp2 rfl _ _ _) rfl ?_
   exact ⟨y,284,0,HK.out _ _ _ (Src.Top.full y 284 (Nat.le_refl _)),by rw[HCUR.out];rfl,HR.out,HG.out⟩
theorem openAt (key nn bx:ByteArray) (w:World) (hk:key.size=32) (hn:nn.size=12) (hb:bx.size≤1099511627):
  Calls Tryz.prog 34 #[.string key,.string nn,.string ⟨#[]⟩,.string bx] w fun e w'=>e = .returned (.tuple #[.string ⟨(Box.opened key.data.toList nn.data.toList [] bx.data.toList).1.toArray⟩,.int .i64 (Box.opened key.data.toList nn.data.toList [] bx.data.toList).2])∧Below w.heap.size w w':=by
 have h:=popen_ok key nn ⟨#[]⟩ bx w (by decide) hb
 unfold ansV Box.openAns at h
 rw[if_neg (by rw[hk,hn];decide)] at h
 exact h
theorem str_isne {a:ByteArray} (h:a.data.toList≠[]):a.toList.isEmpty=false:=by
 rw[List.isEmpty_eq_false_iff,ByteArray.toList_eq]
 exact h
theorem ba_cons {l:List UInt8} (h:l≠[]):(⟨l.toArray⟩:ByteArray).toList.isEmpty=false:=str_isne h
set_option maxRecDepth 100000 in
set_option maxHeartbeats 1600000 in
theorem openChunk_any (key:ByteArray) (n:Nat) (last:Bool) (bx:ByteArray) (w:World) (hk:key.size=32) (hn:n≤1125899906842624) (hb:bx.size≤1099511627):
  Calls Tryz.prog 97 #[.string key,.int .u64 (n:Nat),.bool last,.string bx] w fun e w'=>e = .returned (ansV (Ref.opnC key.data.toList n last bx.data.toList))∧Below w.heap.size w w':=by
 have HN1:=hide (fun w=>nonceOf_any n last w hn)
 have HN2:=hide (fun w=>nonceOf_any n (!last) w hn)
 have hz1:(⟨(Ref.nonce n last).toArray⟩:ByteArray).size=12:=by rw[two_size,Ref.nonce_len]
 have hz2:(⟨(Ref.nonce n (!last)).toArray⟩:ByteArray).size=12:=by rw[two_size,Ref.nonce_len]
 have HO1:=hide (fun w=>openAt key ⟨(Ref.nonce n last).toArray⟩ bx w hk hz1 hb)
 have HO2:=hide (fun w=>openAt key ⟨(Ref.nonce n (!last)).toArray⟩ bx w hk hz2 hb)
 unfold Ref.opnC
 rw[two_toList] at HO1 HO2
 have hc1:=Ref.opened_code key.data.toList (Ref.nonce n last) [] bx.data.toList
 have hc2:=Ref.opened_code key.data.toList (Ref.nonce n (!last)) [] bx.data.toList
 generalize Box.opened key.data.toList (Ref.nonce n last) [] bx.data.toList=o1 at *
 generalize Box.opened key.data.toList (Ref.nonce n (!last)) [] bx.data.toList=o2 at *
 generalize (⟨(Ref.nonce n last).toArray⟩:ByteArray)=nn1 at *
 generalize (⟨(Ref.nonce n (!last)).toArray⟩:ByteArray)=nn2 at *
 obtain ⟨t1,e1⟩:=o1
 obtain ⟨t2,e2⟩:=o2
 simp only at hc1 hc2 HO1 HO2 ⊢
 clear hz1 hz2 hk hb hn
 rcases hc1 with rfl | rfl
 ·rw[if_pos rfl]
  clear HN2 HO2 hc2
  by_cases hv:last=true∧0<n∧t1=[]
  ·obtain ⟨rfl,hn0,rfl⟩:=hv
   rw[if_pos ⟨rfl,hn0,rfl⟩]
   have jn:(0:Int)<(n:Int):=by omega
   go_enter Tryz.func97,Tryz.ntmps97
   go_wp2_with fail
   refine (HN1.out _).mono ?_
   rintro e w1 ⟨rfl,be1⟩
   have B1:=hide be1
   clear HN1 be1
   go_wp2_with fail
   refine (HO1.out _).mono ?_
   rintro e w2 ⟨rfl,be2⟩
   have B2:=hide (B1.out.trans (be2.mono B1.out.size))
   clear HO1 be2 B1
   go_wp2
   refine bodyPost_ret (results_tmp2 rfl _ _ _) rfl ?_
   exact ⟨rfl,B2.out⟩
  ·rw[if_neg hv]
   cases last with
   | false=>
    go_enter Tryz.func97,Tryz.ntmps97
    go_wp2_with fail
    refine (HN1.out _).mono ?_
    rintro e w1 ⟨rfl,be1⟩
    have B1:=hide be1
    clear HN1 be1
    go_wp2_with fail
    refine (HO1.out _).mono ?_
    rintro e w2 ⟨rfl,be2⟩
    have B2:=hide (B1.out.trans (be2.mono B1.out.size))
    clear HO1 be2 B1
    go_wp2
    refine bodyPost_ret (results_tmp2 rfl _ _ _) rfl ?_
    exact ⟨rfl,B2.out⟩
   | true=>
    by_cases hn0:0<n
    ·have ht:=ba_cons (fun e=>hv ⟨rfl,hn0,e⟩)
     have jn:(0:Int)<(n:Int):=by omega
     have HA:=hide (show ansV (t1,0) = .tuple #[.string ⟨t1.toArray⟩,.int .i64 0] from rfl)
     rw[HA.out]
     generalize (⟨t1.toArray⟩:ByteArray)=bt at *
     clear hv HA
     go_enter Tryz.func97,Tryz.ntmps97
     go_wp2_with fail
     refine (HN1.out _).mono ?_
     rintro e w1 ⟨rfl,be1⟩
     have B1:=hide be1
     clear HN1 be1
     go_wp2_with fail
     refine (HO1.out _).mono ?_
     rintro e w2 ⟨rfl,be2⟩
     have B2:=hide (B1.out.trans (be2.mono B1.out.size))
     clear HO1 be2 B1
     go_wp2
     refine bodyPost_ret (results_tmp2 rfl _ _ _) rfl ?_
     exact ⟨rfl,B2.out⟩
    ·have hz:n=0:=by omega
     subst hz
     go_enter Tryz.func97,Tryz.ntmps97
     go_wp2_with fail
     refine (HN1.out _).mono ?_
     rintro e w1 ⟨rfl,be1⟩
     have B1:=hide be1
     clear HN1 be1
     go_wp2_with fail
     refine (HO1.out _).mono ?_
     rintro e w2 ⟨rfl,be2⟩
     have B2:=hide (B1.out.trans (be2.mono B1.out.size))
     clear HO1 be2 B1
     go_wp2
     refine bodyPost_ret (results_tmp2 rfl _ _ _) rfl ?_
     exact ⟨rfl,B2.out⟩
 ·rw[if_neg (by decide)]
  have hz:∀ (x:List UInt8 × Int),ansV x = .tuple #[.string ⟨x.1.toArray⟩,.int .i64 x.2]:=fun _=>rfl
  rw[hz]
  rcases hc2 with rfl | rfl
  ·rw[if_neg (by decide)]
   cases last with
   | false=>
    rw[if_neg (by decide)]
    go_enter Tryz.func97,Tryz.ntmps97
    go_wp2_with fail
    refine (HN1.out _).mono ?_
    rintro e w1 ⟨rfl,be1⟩
    have B1:=hide be1
    clear HN1 be1
    go_wp2_with fail
    refine (HO1.out _).mono ?_
    rintro e w2 ⟨rfl,be2⟩
    have B2:=hide (B1.out.trans (be2.mono B1.out.size))
    clear HO1 be2 B1
    go_wp2_with fail
    refine (HN2.out _).mono ?_
    rintro e w3 ⟨rfl,be3⟩
    have B3:=hide (B2.out.trans (be3.mono B2.out.size))
    clear HN2 be3 B2
    go_wp2_with fail
    refine (HO2.out _).mono ?_
    rintro e w4 ⟨rfl,be4⟩
    have B4:=hide (B3.out.trans (be4.mono B3.out.size))
    clear HO2 be4 B3
    go_wp2
    refine bodyPost_ret (results_tmp2 rfl _ _ _) rfl ?_
    exact ⟨rfl,B4.out⟩
   | true=>
    rw[if_pos rfl]
    go_enter Tryz.func97,Tryz.ntmps97
    go_wp2_with fail
    refine (HN1.out _).mono ?_
    rintro e w1 ⟨rfl,be1⟩
    have B1:=hide be1
    clear HN1 be1
    go_wp2_with fail
    refine (HO1.out _).mono ?_
    rintro e w2 ⟨rfl,be2⟩
    have B2:=hide (B1.out.trans (be2.mono B1.out.size))
    clear HO1 be2 B1
    go_wp2_with fail
    refine (HN2.out _).mono ?_
    rintro e w3 ⟨rfl,be3⟩
    have B3:=hide (B2.out.trans (be3.mono B2.out.size))
    clear HN2 be3 B2
    go_wp2_with fail
    refine (HO2.out _).mono ?_
    rintro e w4 ⟨rfl,be4⟩
    have B4:=hide (B3.out.trans (be4.mono B3.out.size))
    clear HO2 be4 B3
    go_wp2
    refine bodyPost_ret (results_tmp2 rfl _ _ _) rfl ?_
    exact ⟨rfl,B4.out⟩
  ·rw[if_pos (by decide)]
   cases last with
   | false=>
    go_enter Tryz.func97,Tryz.ntmps97
    go_wp2_with fail
    refine (HN1.out _).mono ?_
    rintro e w1 ⟨rfl,be1⟩
    have B1:=hide be1
    clear HN1 be1
    go_wp2_with fail
    refine (HO1.out _).mono ?_
    rintro e w2 ⟨rfl,be2⟩
    have B2:=hide (B1.out.trans (be2.mono B1.out.size))
    clear HO1 be2 B1
    go_wp2_with fail
    refine (HN2.out _).mono ?_
    rintro e w3 ⟨rfl,be3⟩
    have B3:=hide (B2.out.trans (be3.mono B2.out.size))
    clear HN2 be3 B2
    go_wp2_with fail
    refine (HO2.out _).mono ?_
    rintro e w4 ⟨rfl,be4⟩
    have B4:=hide (B3.out.trans (be4.mono B3.out.size))
    clear HO2 be4 B3
    go_wp2
    refine bodyPost_ret (results_tmp2 rfl _ _ _) rfl ?_
    exact ⟨rfl,B4.out⟩
   | true=>
    go_enter Tryz.func97,Tryz.ntmps97
    go_wp2_with fail
    refine (HN1.out _).mono ?_
    rintro e w1 ⟨rfl,be1⟩
    have B1:=hide be1
    clear HN1 be1
    go_wp2_with fail
    refine (HO1.out _).mono ?_
    rintro e w2 ⟨rfl,be2⟩
    have B2:=hide (B1.out.trans (be2.mono B1.out.size))
    clear HO1 be2 B1
    go_wp2_with fail
    refine (HN2.out _).mono ?_
    rintro e w3 ⟨rfl,be3⟩
    have B3:=hide (B2.out.trans (be3.mono B2.out.size))
    clear HN2 be3 B2
    go_wp2_with fail
    refine (HO2.out _).mono ?_
    rintro e w4 ⟨rfl,be4⟩
    have B4:=hide (B3.out.trans (be4.mono B3.out.size))
    clear HO2 be4 B3
    go_wp2
    refine bodyPost_ret (results_tmp2 rfl _ _ _) rfl ?_
    exact ⟨rfl,B4.out⟩
structure UW (w:World) (vs vb:Value) (mac:ByteArray) (ss bs:List ByteArray) (wi:World):Prop where
 hb:Blk wi w.heap.size 70 [vs,vb,.string mac]
 be:Below w.heap.size w wi
 tb:Tabs wi
 s1:Strs wi vs ss
 s2:Strs wi vb bs
theorem UW.after {w:World} {vs vb:Value} {mac:ByteArray} {ss bs:List ByteArray} {wi wj:World} (h:UW w vs vb mac ss bs wi) (hb:Below wi.heap.size wi wj):UW w vs vb mac ss bs wj:=
 ⟨h.hb.below hb h.hb.lt,h.be.trans (hb.mono h.be.size),h.tb.after hb,h.s1.after hb,h.s2.after hb⟩
set_option maxRecDepth 100000 in
set_option maxHeartbeats 3200000 in
theorem unwrap_any (master:ByteArray) (vs vb:Value) (mac:ByteArray) (ss bs:List ByteArray) (w:World) (ht:Tabs w) (h1:Strs w vs ss) (h2:Strs w vb bs) (hl:bs.length=ss.length) (hn:ss.length≤3) (hm:master.size≤1000) (hz1:∀ i,(ss.getD i ⟨#[]⟩).size≤1000) (hz2:∀ i,(bs.getD i ⟨#[]⟩).size≤1000):
  Calls Tryz.prog 92 #[.string master,.agg #[vs,vb,.string mac]] w fun e w'=>e = .returned (.tuple #[.string ⟨(Ref.unwA master.data.toList ss bs).1.toArray⟩,.int .i64 (Ref.unwA master.data.toList ss bs).2])∧Below w.heap.size w w':=by
 have hbA:Below w.heap.size w (w.alloc (.cells #[vs,vb,.string mac] 70)):=(Below.refl _ _).alloc (Nat.le_refl _) _
 have hBK:Blk (w.alloc (.cells #[vs,vb,.string mac] 70)) w.heap.size 70 [vs,vb,.string mac]:=Blk.new rfl rfl
 have H0:=hide (show UW w vs vb mac ss bs (w.alloc (.cells #[vs,vb,.string mac] 70)) from ⟨hBK,hbA,ht.after hbA,h1.after hbA,h2.after hbA⟩)
 have HN:Hid (∀ w,Calls Tryz.prog 113 #[.int .i64 12] w fun e w'=>e = .returned (.string ⟨(nought 12).toArray⟩)∧Below w.heap.size w w'):=hide (fun w=>noughts_any 12 w (by decide))
 obtain ⟨ao,cp,rfl⟩:=h1.len
 obtain ⟨bo,dp,rfl⟩:=h2.len
 obtain ⟨n,hnn⟩:∃ n:Nat,ss.length=n:=⟨_,rfl⟩
 have HNN:=hide hnn
 have HLL:=hide (show bs.length=n by rw[hl,hnn])
 have HZ1:=hide hz1
 have HZ2:=hide hz2
 have HA:=hide (show Ref.unwA master.data.toList ss bs=Ref.unw master.data.toList ss bs n 0 by unfold Ref.unwA;rw[hnn])
 rw[HA.out]
 rw[hl] at H0 ⊢
 rw[hnn] at H0 hn ⊢
 clear hbA hBK h1 h2 ht hz1 hz2 hl hnn HA
 go_enter Tryz.func92,Tryz.ntmps92
 go_wp2_with fail
 refine (HN.out _).mono ?_
 rintro e w1 ⟨rfl,hb1⟩
 have U1:=hide (H0.out.after hb1)
 clear HN H0 hb1
 go_wp2
 go_loopw [7] (fun v wr=>∃ i:Nat,i≤n∧v = .int .i64 (i:Nat)∧UW w (.slice ao n cp) (.slice bo n dp) mac ss bs wr∧Ref.unw master.data.toList ss bs n 0=Ref.unw master.data.toList ss bs (n-i) i) (fun v _=>n-(intOf v).toNat)
 case atStart=>exact ⟨0,Nat.zero_le _,rfl,U1.out,rfl⟩
 case round=>
  clear U1
  obtain ⟨i,hi,rfl,hu,hq⟩:=hrel
  have U:=hide hu
  have c0:=hu.hb.cell (i:=0) rfl
  have c1:=hu.hb.cell (i:=1) rfl
  have HQ:=hide hq
  clear hq
  by_cases hlt:i<n
  ·have jk:(i:Int)<(n:Int):=by omega
   obtain ⟨g,o,c,hv1,hgl,e1⟩:=hu.s1.at i (by rw[HNN.out];exact hlt)
   injection hv1 with hv1 hv1n hv1c
   clear hv1n
   subst hv1
   subst hv1c
   obtain ⟨g2,o2,c2,hv2,hgl2,e2⟩:=hu.s2.at i (by rw[HLL.out];exact hlt)
   injection hv2 with hv2 hv2n hv2c
   clear hv2n
   subst hv2
   subst hv2c
   have z1:=HZ1.out i
   have z2:=HZ2.out i
   have hbd:Ref.body master.data.toList ss bs i=Box.opened (Ref.keyL master.data.toList (ss.getD i ⟨#[]⟩).data.toList Ref.inWrap) (nought 12) [] (bs.getD i ⟨#[]⟩).data.toList:=rfl
   have hun:Ref.unw master.data.toList ss bs (n-i) i=if (Ref.body master.data.toList ss bs i).2=0 then ((Ref.body master.data.toList ss bs i).1,0) else Ref.unw master.data.toList ss bs (n-(i+1)) (i+1):=by
    rw[show n-i=(n-(i+1))+1 by omega,Ref.unw]
   rw[hbd] at hun
   have hlen:g<wr.heap.size∧g2<wr.heap.size:=⟨hgl,hgl2⟩
   generalize ss.getD i ⟨#[]⟩=sk at *
   generalize bs.getD i ⟨#[]⟩=bk at *
   have HK:=hide (kKey_any master sk ⟨#[119,114,97,112]⟩ wr (by omega) (by omega) (by decide) U.out.tb.k U.out.tb.h U.out.tb.two)
   rw[show (expO (macL sk.data.toList master.data.toList) (⟨#[119,114,97,112]⟩:ByteArray).data.toList 1).take 32=Ref.keyL master.data.toList sk.data.toList Ref.inWrap from rfl] at HK
   have hkz:(⟨(Ref.keyL master.data.toList sk.data.toList Ref.inWrap).toArray⟩:ByteArray).size=32:=by rw[two_size,Ref.keyL_len]
   have HO:=hide (fun w=>openAt ⟨(Ref.keyL master.data.toList sk.data.toList Ref.inWrap).toArray⟩ ⟨(nought 12).toArray⟩ bk w hkz rfl (by omega))
   rw[two_toList,two_toList] at HO
   have hoc:=Ref.opened_code (Ref.keyL master.data.toList sk.data.toList Ref.inWrap) (nought 12) [] bk.data.toList
   generalize Box.opened (Ref.keyL master.data.toList sk.data.toList Ref.inWrap) (nought 12) [] bk.data.toList=op at *
   generalize (⟨(Ref.keyL master.data.toList sk.data.toList Ref.inWrap).toArray⟩:ByteArray)=kk at *
   have HUN:=hide hun
   have HLT:=hide hlt
   clear hbd hun z1 z2 hkz hlt hi hu
   obtain ⟨ot,oe⟩:=op
   simp only at hoc HO
   go_wp2_with fail
   refine HK.out.mono ?_
   rintro e w2 ⟨rfl,hb2⟩
   have U2:=hide (U.out.after hb2)
   have d1:=U2.out.hb.cell (i:=1) rfl
   have f2:=(hb2.cell hlen.2).trans e2
   clear hb2 HK U c0 c1 e1 e2
   go_wp2_with fail
   refine (HO.out _).mono ?_
   rintro e w3 ⟨rfl,hb3⟩
   have U3:=hide (U2.out.after hb3)
   clear hb3 HO U2 d1 f2
   rcases hoc with rfl | rfl
   ·go_wp2
    refine bodyPost_ret (results_tmp2 rfl _ _ _) rfl ?_
    refine ⟨?_,U3.out.be⟩
    rw[HQ.out,HUN.out]
    rfl
   ·go_wp2
    go_roundw
    case rel=>
     have hq2:Ref.unw master.data.toList ss bs n 0=Ref.unw master.data.toList ss bs (n-(i+1)) (i+1):=by
      rw[HQ.out,HUN.out,if_neg (by decide)]
     exact ⟨i+1,HLT.out,by go_num,U3.out,hq2⟩
    case measure=>have:=HLT.out;simp[intOf];omega
  ·obtain rfl:i=n:=by omega
   have jk:¬ (i:Int)<(i:Int):=by omega
   clear hu
   go_wp2
   refine bodyPost_ret (results_tmp2 rfl _ _ _) rfl ?_
   refine ⟨?_,U.out.be⟩
   rw[HQ.out,Nat.sub_self,Ref.unw]
   rfl
theorem parAns_facts (t:ByteArray):((Hd.parAns t).2≠0∧(Hd.parAns t).2=6∧(Hd.parAns t).1=Hd.nil)∨((Hd.parAns t).2=0∧Hd.Ok (Hd.parAns t).1.ss (Hd.parAns t).1.bs (Hd.parAns t).1.mac∧t=Hd.ofL (Hd.text (Hd.parAns t).1.ss (Hd.parAns t).1.bs (Hd.parAns t).1.mac)):=by
 rcases Hd.parAns_cases t with h | ⟨ss,bs,m,ho,he,h⟩
 ·rw[h]
  exact .inl ⟨(by decide),rfl,rfl⟩
 ·rw[h]
  exact .inr ⟨rfl,ho,he⟩
theorem getD_size_le {l:List ByteArray} {n m:Nat} (h:∀ i,i<n→(l.getD i ⟨#[]⟩).size=m) (hl:l.length=n) (i:Nat):(l.getD i ⟨#[]⟩).size≤m:=by
 rcases Nat.lt_or_ge i n with h1 | h1
 ·rw[h i h1];exact Nat.le_refl _
 ·rw[List.getD_eq_getElem?_getD,List.getElem?_eq_none (by omega)]
  exact Nat.zero_le _
theorem unwA_len (m:List UInt8) {ss bs:List ByteArray} {mac:ByteArray} (h:Hd.Ok ss bs mac):(Ref.unwA m ss bs).1.length≤32:=by
 refine Ref.unw_len m ss bs (fun i=>?_) _ _
 unfold Hd.at_
 rw[ba_len]
 exact getD_size_le (n:=ss.length) h.hb h.nb i
def hdAns (u:List UInt8 × Int) (t mac:ByteArray):List UInt8 × Int:=
 if u.2≠0 then ([],u.2) else if macL (Ref.keyL u.1 [] Ref.inHead) (t.data.toList.take (t.size-45))≠mac.data.toList then ([],8) else (u.1,0)
theorem opnA_ok {m:List UInt8} {t:ByteArray} {ss bs:List ByteArray} {mac:ByteArray} (h:Hd.parAns t=(⟨ss,bs,mac⟩,0)):Ref.opnA m t=hdAns (Ref.unwA m ss bs) t mac:=by
 unfold Ref.opnA hdAns
 rw[h]
 rfl
theorem opnA_bad {m:List UInt8} {t:ByteArray} (h:Hd.parAns t=(Hd.nil,6)):Ref.opnA m t=([],6):=by
 unfold Ref.opnA
 rw[h]
 rfl
set_option maxRecDepth 100000 in
set_option maxHeartbeats 1600000 in
theorem openHeader_ok (master t:ByteArray) (ss bs:List ByteArray) (mac:ByteArray) (w:World) (ht:Tabs w) (hm:master.size≤1000) (hp:Hd.parAns t=(⟨ss,bs,mac⟩,0)) (hO:Hd.Ok ss bs mac) (hts:45≤t.size) (hz:t.size≤1000):
  Calls Tryz.prog 59 #[.string master,.string t] w fun e w'=>e = .returned (ansV (hdAns (Ref.unwA master.data.toList ss bs) t mac))∧Below w.heap.size w w':=by
 have HPA:=hide (pParse_any t w (by omega))
 rw[hp] at HPA
 have hn3:=hO.n3
 have hz1:=getD_size_le (n:=ss.length) hO.hs rfl
 have hz2:=getD_size_le (n:=ss.length) hO.hb hO.nb
 have hms:mac.size≤1099511627776:=by rw[hO.hm];decide
 have HUL:=hide (unwA_len master.data.toList hO)
 have hcd:(Ref.unwA master.data.toList ss bs).2=0∨Ref.unwA master.data.toList ss bs=([],7):=Ref.unw_code _ _ _ _ _
 have hnb:=hO.nb
 have HUW:=hide (fun vs vb (w':World) (t:Tabs w') (a:Strs w' vs ss) (b:Strs w' vb bs)=>unwrap_any master vs vb mac ss bs w' t a b hnb (by omega) hm (fun i=>Nat.le_trans (hz1 i) (by decide)) (fun i=>Nat.le_trans (hz2 i) (by decide)))
 have HT:=hide ht
 have HMA:=hide (fun (key:ByteArray) (w':World) (tt:Tabs w') (h:key.size≤32)=>macOf_any key t w' tt (by omega) hts (by omega))
 have hml:∀ ut,(macL (Ref.keyL ut [] Ref.inHead) (t.data.toList.take (t.size-45))).length=32:=fun ut=>macL_len _ _
 have HML:=hide hml
 generalize Ref.unwA master.data.toList ss bs=ua at *
 obtain ⟨ut,ue⟩:=ua
 change Hid (∀ vs vb (w':World),Tabs w'→Strs w' vs ss→Strs w' vb bs→Calls Tryz.prog 92 #[.string master,.agg #[vs,vb,.string mac]] w' fun e w''=>e = .returned (.tuple #[.string ⟨ut.toArray⟩,.int .i64 ue])∧Below w'.heap.size w' w'') at HUW
 change Hid (ut.length≤32) at HUL
 change Hid (Calls Tryz.prog 31 #[.string t] w fun e w'=>∃ vs vb,e = .returned (.tuple #[.agg #[vs,vb,.string mac],.int .i64 0]) ∧
   Row w' w.heap.size 9 1 vs ss.length (strV ss)∧Row w' w.heap.size 9 1 vb bs.length (strV bs)∧Below w.heap.size w w') at HPA
 clear ht hz1 hz2 hm hp hO hml hnb hn3
 go_enter Tryz.func59,Tryz.ntmps59
 go_wp2_with fail
 refine HPA.out.mono ?_
 rintro e w1 ⟨vs,vb,rfl,hr1,hr2,hb1⟩
 have hbA:Below w1.heap.size w1 (w1.alloc (.cells #[vs,vb,.string mac] 70)):=(Below.refl _ _).alloc (Nat.le_refl _) _
 have hB2:Blk (w1.alloc (.cells #[vs,vb,.string mac] 70)) w1.heap.size 70 [vs,vb,.string mac]:=Blk.new rfl rfl
 have HU2:=hide (HUW.out vs vb _ ((HT.out.after hb1).after hbA) ((Row.strs hr1).after hbA) ((Row.strs hr2).after hbA))
 have HB2:=hide hB2
 have B2:=hide (hb1.trans (hbA.mono hb1.size))
 have HT2:=hide ((HT.out.after hb1).after hbA)
 obtain ⟨o1,c1,rfl,_⟩:=Row.anyN hr1
 obtain ⟨o2,c2,rfl,_⟩:=Row.anyN hr2
 clear HPA hr1 hr2 hb1 hbA hB2 HUW HT
 rcases hcd with hq | hq
 ·change ue=0 at hq
  subst hq
  go_wp2_with fail
  refine HU2.out.mono ?_
  rintro e w2 ⟨rfl,hb2⟩
  have HB3:=hide (HB2.out.below hb2 HB2.out.lt)
  have B3:=hide (B2.out.trans (hb2.mono B2.out.size))
  have HM3:=hide (HMA.out ⟨ut.toArray⟩ w2 (HT2.out.after hb2) (by rw[two_size];exact HUL.out))
  rw[two_toList] at HM3
  have HD0:=hide (show hdAns (ut,0) t mac=if macL (Ref.keyL ut [] Ref.inHead) (t.data.toList.take (t.size-45))≠mac.data.toList then ([],8) else (ut,0) from rfl)
  have hml:=HML.out ut
  generalize macL (Ref.keyL ut [] Ref.inHead) (t.data.toList.take (t.size-45))=MM at *
  have hMz:(⟨MM.toArray⟩:ByteArray).size≤1099511627776:=by rw[two_size,hml];decide
  clear hb2 HU2 HB2 B2 HT2 HMA hml
  go_wp2_with fail
  refine HM3.out.mono ?_
  rintro e w3 ⟨rfl,hb3⟩
  have HB4:=hide (HB3.out.below hb3 HB3.out.lt)
  have B4:=hide (B3.out.trans (hb3.mono B3.out.size))
  have k2:=HB4.out.cell (i:=2) rfl
  have HSA:=hide (same_any ⟨MM.toArray⟩ mac w3 hMz)
  clear hb3 HM3 HB3 B3 hMz
  by_cases heq:MM=mac.data.toList
  ·have hd:decide ((⟨MM.toArray⟩:ByteArray)=mac)=true:=decide_eq_true (ba_ext heq)
   rw[hd] at HSA
   have HAN:=hide (show hdAns (ut,0) t mac=(ut,0) by rw[HD0.out,if_neg (fun h=>h heq)])
   generalize (⟨MM.toArray⟩:ByteArray)=mm at *
   generalize hub:(⟨ut.toArray⟩:ByteArray)=ub at *
   clear hd heq
   go_wp2_with fail
   refine HSA.out.mono ?_
   rintro e w4 ⟨rfl,m4,rfl⟩
   clear HSA
   go_wp2
   refine bodyPost_ret (results_tmp2 rfl _ _ _) rfl ?_
   exact ⟨by rw[HAN.out];unfold ansV;rw[hub];rfl,below_drewN B4.out m4⟩
  ·have hd:decide ((⟨MM.toArray⟩:ByteArray)=mac)=false:=decide_eq_false (fun h=>heq (by rw[←h]))
   rw[hd] at HSA
   have HAN:=hide (show hdAns (ut,0) t mac=([],8) by rw[HD0.out,if_pos heq])
   generalize (⟨MM.toArray⟩:ByteArray)=mm at *
   generalize (⟨ut.toArray⟩:ByteArray)=ub at *
   clear hd heq
   go_wp2_with fail
   refine HSA.out.mono ?_
   rintro e w4 ⟨rfl,m4,rfl⟩
   clear HSA
   go_wp2
   refine bodyPost_ret (results_tmp2 rfl _ _ _) rfl ?_
   exact ⟨by rw[HAN.out];rfl,below_drewN B4.out m4⟩
 ·injection hq with hq1 hq2
  subst hq1
  subst hq2
  go_wp2_with fail
  refine HU2.out.mono ?_
  rintro e w2 ⟨rfl,hb2⟩
  have B3:=hide (B2.out.trans (hb2.mono B2.out.size))
  clear hb2 HU2 HB2 B2 HT2 HMA
  go_wp2
  refine bodyPost_ret (results_tmp2 rfl _ _ _) rfl ?_
  exact ⟨rfl,B3.out⟩
set_option maxRecDepth 100000 in
set_option maxHeartbeats 1600000 in
theorem openHeader_any (master t:ByteArray) (w:World) (ht:Tabs w) (hm:master.size≤1000) (hz:t.size≤1000):
  Calls Tryz.prog 59 #[.string master,.string t] w fun e w'=>e = .returned (.tuple #[.string ⟨(Ref.opnA master.data.toList t).1.toArray⟩,.int .i64 (Ref.opnA master.data.toList t).2])∧Below w.heap.size w w':=by
 rcases Hd.parAns_cases t with h | ⟨ss,bs,mac,hO,hT,h⟩
 ·have HPA:=hide (pParse_any t w (by omega))
  rw[h] at HPA
  rw[opnA_bad h]
  clear h
  go_enter Tryz.func59,Tryz.ntmps59
  go_wp2_with fail
  refine HPA.out.mono ?_
  rintro e w1 ⟨vs,vb,rfl,hr1,hr2,hb1⟩
  obtain ⟨o1,c1,rfl,_⟩:=Row.anyN hr1
  obtain ⟨o2,c2,rfl,_⟩:=Row.anyN hr2
  have B1:=hide hb1
  have hsz:=hb1.size
  clear HPA hr1 hr2 hb1
  go_wp2
  refine bodyPost_ret (results_tmp2 rfl _ _ _) rfl ?_
  exact ⟨rfl,B1.out.alloc hsz _⟩
 ·have hts:t.size=59+75*ss.length:=by
   have:=hO.size_eq
   rw[←hT] at this
   exact this
  rw[opnA_ok h]
  exact openHeader_ok master t ss bs mac w ht hm h hO (by omega) hz
end Go.Proofs.YtoifalcpfnacnaaGreatDoor
