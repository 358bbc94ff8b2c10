import Derived.Carry
import Derived.ChangeSame
import Derived.Test.YtoifalcpfnacnaaGreatDoorBe12
namespace Go.Proofs.YtoifalcpfnacnaaGreatDoor
open Go.ChangeShapes Go.WideShapes Go.ChangeAt Go.RowKit Go.Deep
theorem open_int0 {H:Type} {enc:TypeId × Value→H} {P:Program} {t:TypeId} (ht:P.underlying t=some (.int .i64)) {W:World} {r:Reach} {b0 base:Nat} {sp:Nat→Bool} {held:Bool} {v:Value} {d:DataW H} {ps:List MemPlace} (hval:Value.okWide P W r b0 t v) (hd:DataW.Trod enc P W base sp held t v d ps):
  ∃ n:Int,v = .int .i64 n∧d = .lit (.int .i64 n)∧ps=[]∧(Lit.int .i64 n).wf=true:=by
 obtain ⟨n,rfl⟩:=okWide_int ht hval
 obtain ⟨fuel,hf⟩:=hd
 obtain ⟨m,h,hx,hs⟩:=DataW.trod_int ht hf
 simp[Value.cells] at h
 subst h
 simp only[Prod.mk.injEq] at hx
 exact ⟨n,rfl,hx.1,hx.2,hs⟩
set_option maxRecDepth 100000 in
theorem open_intA {H:Type} {enc:TypeId × Value→H} {W:World} {r:Reach} {b0 base:Nat} {sp:Nat→Bool} {held:Bool} {v:Value} {d:DataW H} {ps:List MemPlace} (hval:Value.okWide Tryz.prog W r b0 3 v) (hd:DataW.Trod enc Tryz.prog W base sp held 3 v d ps):
  ∃ n:Int,v = .int .i64 n∧d = .lit (.int .i64 n)∧ps=[]∧(Lit.int .i64 n).wf=true:=open_int0 Tryz.underlying3 hval hd
set_option maxRecDepth 100000 in
theorem shut_intA {H:Type} {enc:TypeId × Value→H} {W:World} {base:Nat} {sp:Nat→Bool} {held:Bool} {n:Int} (hn:(Lit.int .i64 n).wf=true):DataW.Trod enc Tryz.prog W base sp held 3 (.int .i64 n) (.lit (.int .i64 n)) []:=
 ⟨1,Go.ChangeShapes.trod_int_mk 0 Tryz.underlying3 hn⟩
theorem wfB {n:Int} (h:(Lit.int .i64 n).wf=true) : -9223372036854775808≤n∧n≤9223372036854775807:=by
 simp only[Lit.wf,Bool.and_eq_true,decide_eq_true_eq] at h
 have h1:IntKind.i64.min = -9223372036854775808:=rfl
 have h2:IntKind.i64.max=9223372036854775807:=rfl
 omega
theorem mk4 {H:Type} {enc:TypeId × Value→H} {P:Program} {w:World} {base:Nat} {sp:Nat→Bool} {held:Bool} {t t' t'' t3:TypeId} {v v' v'' v3:Value} {d d' d'' d3:DataW H} (h:DataW.Trod enc P w base sp held t v d []) (h':DataW.Trod enc P w base sp held t' v' d' []) (h'':DataW.Trod enc P w base sp held t'' v'' d'' []) (h3:DataW.Trod enc P w base sp held t3 v3 d3 []):
  DataW.TrodAll enc P w base sp held [t,t',t'',t3] [v,v',v'',v3] [d,d',d'',d3] []:=⟨[],[],h,trodAll_mk3 h' h'' h3,rfl⟩
theorem mk5 {H:Type} {enc:TypeId × Value→H} {P:Program} {w:World} {base:Nat} {sp:Nat→Bool} {held:Bool} {t t1 t2 t3 t4:TypeId} {v v1 v2 v3 v4:Value} {d d1 d2 d3 d4:DataW H} (h:DataW.Trod enc P w base sp held t v d []) (h1:DataW.Trod enc P w base sp held t1 v1 d1 []) (h2:DataW.Trod enc P w base sp held t2 v2 d2 []) (h3:DataW.Trod enc P w base sp held t3 v3 d3 []) (h4:DataW.Trod enc P w base sp held t4 v4 d4 []):
  DataW.TrodAll enc P w base sp held [t,t1,t2,t3,t4] [v,v1,v2,v3,v4] [d,d1,d2,d3,d4] []:=⟨[],[],h,mk4 h1 h2 h3 h4,rfl⟩
theorem trodAll_seven {H:Type} {enc:TypeId × Value→H} {P:Program} {w:World} {base:Nat} {spare:Nat→Bool} {held:Bool} {t t1 t2 t3 t4 t5 t6:TypeId} {args:Array Value} {ds:List (DataW H)} {ps:List MemPlace} (h:DataW.TrodAll enc P w base spare held [t,t1,t2,t3,t4,t5,t6] args.toList ds ps):
  ∃ v v1 v2 v3 v4 v5 v6 d d1 d2 d3 d4 d5 d6 p p1 p2 p3 p4 p5 p6,args = #[v,v1,v2,v3,v4,v5,v6]∧ds=[d,d1,d2,d3,d4,d5,d6]∧ps=p++p1++p2++p3++p4++p5++p6∧DataW.Trod enc P w base spare held t v d p∧DataW.Trod enc P w base spare held t1 v1 d1 p1∧DataW.Trod enc P w base spare held t2 v2 d2 p2∧DataW.Trod enc P w base spare held t3 v3 d3 p3∧DataW.Trod enc P w base spare held t4 v4 d4 p4∧DataW.Trod enc P w base spare held t5 v5 d5 p5∧DataW.Trod enc P w base spare held t6 v6 d6 p6:=by
 obtain ⟨v,vs,d,ds0,p,q,hargs,rfl,rfl,hd,hrest⟩:=trodAll_cons h
 obtain ⟨v1,vs1,d1,ds1,p1,q1,rfl,rfl,rfl,hd1,hrest1⟩:=trodAll_cons hrest
 obtain ⟨v2,vs2,d2,ds2,p2,q2,rfl,rfl,rfl,hd2,hrest2⟩:=trodAll_cons hrest1
 obtain ⟨v3,vs3,d3,ds3,p3,q3,rfl,rfl,rfl,hd3,hrest3⟩:=trodAll_cons hrest2
 obtain ⟨v4,vs4,d4,ds4,p4,q4,rfl,rfl,rfl,hd4,hrest4⟩:=trodAll_cons hrest3
 obtain ⟨v5,vs5,d5,ds5,p5,q5,rfl,rfl,rfl,hd5,hrest5⟩:=trodAll_cons hrest4
 obtain ⟨v6,vs6,d6,ds6,p6,q6,rfl,rfl,rfl,hd6,hrest6⟩:=trodAll_cons hrest5
 obtain ⟨rfl,rfl,rfl⟩:=trodAll_nil hrest6
 exact ⟨v,v1,v2,v3,v4,v5,v6,d,d1,d2,d3,d4,d5,d6,p,p1,p2,p3,p4,p5,p6,by cases args;simp_all,rfl,by simp,hd,hd1,hd2,hd3,hd4,hd5,hd6⟩
theorem mk7 {H:Type} {enc:TypeId × Value→H} {P:Program} {w:World} {base:Nat} {sp:Nat→Bool} {held:Bool} {t t1 t2 t3 t4 t5 t6:TypeId} {v v1 v2 v3 v4 v5 v6:Value} {d d1 d2 d3 d4 d5 d6:DataW H} (h:DataW.Trod enc P w base sp held t v d []) (h1:DataW.Trod enc P w base sp held t1 v1 d1 []) (h2:DataW.Trod enc P w base sp held t2 v2 d2 []) (h3:DataW.Trod enc P w base sp held t3 v3 d3 []) (h4:DataW.Trod enc P w base sp held t4 v4 d4 []) (h5:DataW.Trod enc P w base sp held t5 v5 d5 []) (h6:DataW.Trod enc P w base sp held t6 v6 d6 []):
  DataW.TrodAll enc P w base sp held [t,t1,t2,t3,t4,t5,t6] [v,v1,v2,v3,v4,v5,v6] [d,d1,d2,d3,d4,d5,d6] []:=⟨[],[],h,⟨[],[],h1,mk5 h2 h3 h4 h5 h6,rfl⟩,rfl⟩
theorem how_cases (q:Nat) (h:q<13):((q:Nat):Int)=0∨((q:Nat):Int)=1∨((q:Nat):Int)=2∨((q:Nat):Int)=3∨((q:Nat):Int)=4∨((q:Nat):Int)=5∨((q:Nat):Int)=6∨((q:Nat):Int)=7∨((q:Nat):Int)=8∨((q:Nat):Int)=9∨((q:Nat):Int)=10∨((q:Nat):Int)=11∨((q:Nat):Int)=12:=by omega
set_option maxRecDepth 100000 in
set_option maxHeartbeats 1600000 in
theorem bendsLaw_any (s t u v:ByteArray) (a b c:Int) (w:World) (hv:v.size≤maxLen) (a1 : -9223372036854775808≤a) (a2:a≤9223372036854775807) (b1 : -9223372036854775808≤b) (b2:b≤9223372036854775807) (c1 : -9223372036854775808≤c) (c2:c≤9223372036854775807) (hT:Tabs w):
  Calls Tryz.prog 5 #[.string s,.string t,.string u,.string v,.int .i64 a,.int .i64 b,.int .i64 c] w fun e w'=>e = .returned (.bool true)∧Below w.heap.size w w':=by
 unfold maxLen at hv
 have HTW:=hide (two_any s t u v b c w hT (by omega) b1 b2 c1 c2)
 have HPI:Hid (∀ w,Calls Tryz.prog 15 #[.int .i64 a,.int .i64 ((13:Nat):Int)] w fun e w'=>e = .returned (.int .i64 (pickN a 13:Nat))∧w'=w):=hide (fun w=>kpick_any a 13 w a1 a2 (by decide) (by decide))
 have hq:=pickN_lt a 13 (by decide)
 generalize pickN a 13=q at *
 clear hT a1 a2 c1 c2
 go_enter Tryz.func5,Tryz.ntmps5
 go_wp2_with fail
 refine HTW.out.mono ?_
 rintro e w1 (⟨rfl,rfl⟩ | ⟨hx1,hx2,hx3,wb,fs,fb,gb,v0,vb,l,d,v1,vb',l',d',rfl,hW⟩)
 ·clear HTW HPI
  go_wp2
  go_ret
  exact ⟨rfl,Below.refl _ _⟩
 ·have HW:=hide hW
  obtain ⟨bl,fc,F⟩:=hW.f.fb hx1
  obtain ⟨bl',gc,G⟩:=hW.g.fb hx2
  have hbd:Below w1.heap.size w1 w1.drew:=⟨rfl,rfl,rfl,Nat.le_refl _,fun _ _=>rfl⟩
  have HBD:=hide (bended_any fb gb _ _ _ _ bl bl' fc gc (q:Nat) b u w1.drew (F.after hbd) (G.after hbd) b1 b2 hx3 (how_cases q hq) (fun w' h=>hW.f.hollow hx1 w' (hbd.trans h)))
  have d0:=hW.wld.cell (i:=0) rfl
  have d1:=hW.fls.cell (i:=0) rfl
  have d2:=hW.fls.cell (i:=1) rfl
  have hwl:=hW.wld.lt
  have hfs:=hW.fls.lt
  have HX:=hide (And.intro hx1 hx2)
  clear hW F G HTW hbd hx1 hx2 hx3 hq
  go_wp2
  go_region_held3 (fun w'=>w'.cell? ⟨wb,0,none⟩=some (.slice (some ⟨fs,0,none⟩) 2 2)∧w'.cell? ⟨fs,0,none⟩=some (.pointer (some ⟨fb,0,none⟩))∧w'.cell? ⟨fs,1,none⟩=some (.pointer (some ⟨gb,0,none⟩))) (refine ⟨?_,?_,?_⟩ <;> first | assumption | (exact (hb5.cell hwl).trans (by assumption)) | (exact (hb5.cell hfs).trans (by assumption))) (first | (go_at_call 15;refine (HPI.out _).mono ?_;rintro e w4 ⟨rfl,rfl⟩) | (go_at_call 14;refine HBD.out.mono ?_;rintro e w5 ⟨B,rfl,hB,hb5⟩))
  rename_i hH
  clear hH
  have hb6:Below w1.heap.size w1 w5:=(show Below w1.heap.size w1 w1.drew from ⟨rfl,rfl,rfl,Nat.le_refl _,fun _ _=>rfl⟩).trans hb5
  have hW5:=HW.out.after hb6
  have HW5:=hide hW5
  have g0:=hW5.wld.cell (i:=0) rfl
  have g1:=hW5.fls.cell (i:=0) rfl
  have hl0:0<l.length:=hW5.f.1
  have g2:=hW5.f.2.2.2.2.blk.cell (i:=0) rfl
  obtain ⟨gm,om,cm,hvm,hgm,em⟩:=hW5.f.2.2.2.2.ms.at 0 hl0
  subst hvm
  rw[Nat.add_zero] at em
  have hm0:(l.getD 0 ⟨#[]⟩).size=32:=by
   rw[List.getD_eq_getElem?_getD,List.getElem?_eq_getElem hl0]
   exact hW5.f.2.2.1 _ (List.getElem_mem hl0)
  obtain ⟨ln,hln⟩:∃ ln:Nat,l.length=ln:=⟨_,rfl⟩
  rw[hln] at g2
  have jl:(0:Int)<(ln:Int):=by omega
  have jl2:0<ln:=by omega
  have HBN:=hide (bend_any wb fs fb gb s (Ref.pkey l d 0) t (Ref.pkey l' d' 0) (l.getD 0 ⟨#[]⟩) B w5 hW5.tb hW5.wl HX.out.1 HX.out.2 hm0 hB)
  generalize l.getD 0 ⟨#[]⟩=m0 at *
  clear hW5 hb5 hb6 d0 d1 d2 HBD HPI hm0 hB hln
  go_wp2_with fail
  refine HBN.out.mono ?_
  rintro e w7 ⟨rfl,hb7⟩
  have HB7:=hide (HW5.out.be.trans (hb7.mono HW5.out.be.size))
  clear HBN hb7
  go_wp2
  go_ret
  exact ⟨rfl,HB7.out⟩
set_option maxRecDepth 100000 in
theorem bends_contract (H:Type) (enc:TypeId × Value→H) (W:World) (base:Nat) (args:Array Value) (ds gs:List (DataW H)) (before:List MemPlace)
  (hval:∀ (j:Nat) t v,Tryz.f5.params[j]? = some t→args[j]? = some v→Value.okWide Tryz.prog W .any base t v)
  (hW:DataW.Whole enc Tryz.prog Tryz.f5.params.toList Rows.bendsSpec.vars false W args.toList ds gs before)
  (hL:laidMetH Tryz.prog Rows.bendsRow.laid W):
  Calls Tryz.prog 5 args W fun e W'=>∃ v,e = .returned v∧Rows.bendsSpec.post enc Tryz.prog Tryz.f5 false true false false W args v W':=by
 have hW':=hW
 obtain ⟨p,q,hA0,hV,rfl,hfz,hnd⟩:=hW
 have hA:DataW.TrodAll enc Tryz.prog W 0 (fun _=>true) true Tryz.f5.params.toList args.toList ds p:=hA0
 rw[Tryz.params5] at hA hval
 obtain ⟨v0,v1,v2,v3,v4,v5,v6,d0,d1,d2,d3,d4,d5,d6,p0,p1,p2,p3,p4,p5,p6,rfl,rfl,rfl,h0,h1,h2,h3,h4,h5,h6⟩:=trodAll_seven hA
 obtain ⟨rfl,rfl⟩:=trodVars_none hV
 obtain ⟨s,rfl,rfl,rfl,hs⟩:=open_text (hval 0 9 v0 rfl rfl) h0
 obtain ⟨t,rfl,rfl,rfl,ht⟩:=open_text (hval 1 9 v1 rfl rfl) h1
 obtain ⟨u,rfl,rfl,rfl,hu⟩:=open_text (hval 2 9 v2 rfl rfl) h2
 obtain ⟨v,rfl,rfl,rfl,hv⟩:=open_text (hval 3 9 v3 rfl rfl) h3
 obtain ⟨a,rfl,rfl,rfl,hia⟩:=open_intA (hval 4 3 v4 rfl rfl) h4
 obtain ⟨b,rfl,rfl,rfl,hib⟩:=open_intA (hval 5 3 v5 rfl rfl) h5
 obtain ⟨c,rfl,rfl,rfl,hic⟩:=open_intA (hval 6 3 v6 rfl rfl) h6
 clear hA0 hfz hnd
 simp only[List.append_nil] at hW'
 obtain ⟨hh,hk⟩:=tabs2 hL
 have h2:2≤W.heap.size:=World.block_lt_of_cell? W _ (hk 0 (by decide))
 refine (bendsLaw_any s t u v a b c W hv (wfB hia).1 (wfB hia).2 (wfB hib).1 (wfB hib).2 (wfB hic).1 (wfB hic).2 ⟨hk,hh,h2⟩).mono fun e W' ⟨he,hb⟩=>?_
 subst he
 refine ⟨_,rfl,_,_,_,[],[],[],hW',?_,mk7 (shut_text hs) (shut_text ht) (shut_text hu) (shut_text hv) (shut_intA hia) (shut_intA hib) (shut_intA hic),rfl,hb.frame _,fun h=>by cases h⟩
 exact trodAll_mk1 (shut_bool Tryz.underlying4 _)
theorem bends_laid_met (os:Os):laidMet Tryz.prog Rows.bendsRow.laid ((laidWorld Tryz.prog os).forCall (fun _ _=>0) ⟨#[],#[.string ⟨#[]⟩,.string ⟨#[]⟩,.string ⟨#[]⟩,.string ⟨#[]⟩,.int .i64 0,.int .i64 0,.int .i64 0],[]⟩).memory:=
 laidMet_of_run' 8 (by kernel_rfl) (by kernel_rfl)
theorem bends_reads (os:Os) {H:Type} (enc:TypeId × Value→H):∃ places,DataW.whole enc Tryz.prog ((laidWorld Tryz.prog os).forCall (fun _ _=>0) ⟨#[],#[.string ⟨#[]⟩,.string ⟨#[]⟩,.string ⟨#[]⟩,.string ⟨#[]⟩,.int .i64 0,.int .i64 0,.int .i64 0],[]⟩).memory Tryz.f5.params.toList Rows.bendsSpec.vars false #[Value.string ⟨#[]⟩,Value.string ⟨#[]⟩,Value.string ⟨#[]⟩,Value.string ⟨#[]⟩,Value.int .i64 0,Value.int .i64 0,Value.int .i64 0].toList 8=some ([.lit (.string []),.lit (.string []),.lit (.string []),.lit (.string []),.lit (.int .i64 0),.lit (.int .i64 0),.lit (.int .i64 0)],[],places):=
 ⟨[],by kernel_rfl⟩
set_option maxRecDepth 100000 in
theorem bends_lifted (os:Os) (started:os.Started) (H:Type) (enc:TypeId × Value→H) (F:Stop.Interp):
  ReturnsInHanded {} Tryz.checked os 5 .any ((OpenSpec.ofChange Rows.bendsSpec).preRow enc Tryz.prog Tryz.f5 Rows.bendsRow.domain false Rows.bendsRow.laid) (((OpenSpec.ofChange Rows.bendsSpec).at F).post enc Tryz.prog Tryz.f5 false true false false):=by
 obtain ⟨places,hx⟩:=bends_reads os enc
 refine returnsInHanded_of_row (C:=Tryz.checked) (s:=OpenSpec.ofChange Rows.bendsSpec) own started (by kernel_rfl) Tryz.func5
  (witness_row_at (enc:=enc) (C:=Tryz.checked) false (laidWorld Tryz.prog os) #[.string ⟨#[]⟩,.string ⟨#[]⟩,.string ⟨#[]⟩,.string ⟨#[]⟩,.int .i64 0,.int .i64 0,.int .i64 0] rfl (by kernel_rfl) (by kernel_rfl) (by kernel_rfl)
   (OpenSpec.preRow_of_cond 8 hx (by kernel_rfl) (fun k hk=>by cases hk) (by kernel_rfl) (bends_laid_met os))) ?_
 intro W base args ds gs before hval hW _ _ _ hL _ _
 exact bends_contract H enc W base args ds gs before hval hW hL
theorem bends_j1:Tryz.prog.inPlace 5=Rows.bendsRow.inPlace:=by kernel_rfl
theorem bends_j2:Tryz.prog.unfollowed 5=Rows.bendsRow.unfollowed:=by kernel_rfl
theorem bends_j3:Tryz.prog.recurses 5=Rows.bendsRow.recurses:=by kernel_rfl
theorem bends_j4:Tryz.prog.varsNamed 5=Rows.bendsRow.named:=by kernel_rfl
theorem bends_j:joinedFacts Tryz.prog 5 Tryz.f5 (OpenSpec.ofChange Rows.bendsSpec).bare Rows.bendsRow=true:=by
 unfold joinedFacts
 rw[bends_j1,bends_j2,bends_j3,bends_j4]
 kernel_rfl
theorem bends_said:Rows.BendsSaid:=
 OpenClaim.holds_of_cond 5 Tryz.f5 rfl rfl rfl rfl rfl rfl rfl ⟨rfl,rfl,rfl,rfl,rfl⟩ rfl rfl rfl rfl rfl (by kernel_rfl) Tryz.func5 bends_j
  (of_decide_eq_true (by kernel_rfl)) (by unfold Func.isWrapper;first | (rw[if_pos (by decide +kernel)];kernel_rfl) | (rw[if_neg (by decide +kernel)];exact ⟨rfl,rfl⟩))
  (fun os started H enc _ F=>by rw[OpenClaim.pre_eq_preRow];exact bends_lifted os started H enc F)
theorem bends_plain (f : FuncId) (fn : Func) (hf : Tryz.pinned.checked.prog.funcNamed "strongbox/strongboxkeep.Bends" = some f) (hfn : Tryz.pinned.checked.prog.funcs[f]? = some fn) :
  false = Tryz.pinned.checked.prog.looks []∧∀ (j:Nat) t,fn.params[j]? = some t→Tryz.pinned.checked.prog.wantsStandIn t=false:=by
 obtain rfl : f = 5 := Option.some.inj ((show Tryz.prog.funcNamed "strongbox/strongboxkeep.Bends" = some 5 by kernel_rfl).symm.trans hf) |>.symm
 obtain rfl:fn = Tryz.f5:=(Option.some.inj (Tryz.func5.symm.trans hfn)).symm
 refine ⟨by kernel_rfl,fun j t ht=>?_⟩
 rw[Tryz.params5] at ht
 have hm:t=9∨t=3:=by simpa using Array.mem_of_getElem? ht
 rcases hm with rfl | rfl
 ·exact (show Tryz.prog.wantsStandIn 9=false by kernel_rfl)
 ·exact (show Tryz.prog.wantsStandIn 3=false by kernel_rfl)
theorem bends_card:Rows.BendsCardSaid:=
 Claim7.holds_tied_plain_at .later [] _ _ _ _ (bends_said) (fun _ h=>by cases h) (by kernel_rfl) (fun _ h=>by cases h) bends_row_tie rfl ⟨rfl,rfl⟩ (by kernel_rfl) rfl bends_plain (by kernel_rfl)
end Go.Proofs.YtoifalcpfnacnaaGreatDoor
