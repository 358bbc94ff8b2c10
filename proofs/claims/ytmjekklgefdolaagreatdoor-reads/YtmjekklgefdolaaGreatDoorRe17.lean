import Derived.Test.YtmjekklgefdolaaGreatDoorRe16
namespace Go.Proofs.YtmjekklgefdolaaGreatDoor
open Go.RowKit
theorem chg_cell {S:Nat→Prop} {w w':World} (h:Chg S w w') {b i:Nat} (hb:b<w.heap.size) (hn:¬ S b):w'.cell? ⟨b,i,none⟩=w.cell? ⟨b,i,none⟩:=by
 simp only[World.cell?,h.block b hb hn]
set_option maxRecDepth 100000 in
set_option maxHeartbeats 800000 in
theorem used_11n {T:Tags} {base B M M':Nat} {σ:Sig} {w:World} (h:Inv T base B M σ w) (o:OpR) (hk:o.kind=11) (hM:M<M') (hM2:M'≤1073741824) (h1:σ.rd.length=0):
  Calls Tryz.prog 34 #[.pointer (some ⟨B,0,none⟩),opV o] w fun e w'=>e = .returned (.bool true)∧Done base B M' w w':=by
 have z6:(o.kind==6)=false:=beq_eq_false_iff_ne.2 (by rw[hk];decide)
 have z7:(o.kind==7)=false:=beq_eq_false_iff_ne.2 (by rw[hk];decide)
 have z11:(o.kind==11)=true:=beq_iff_eq.2 hk
 have hS:Std base B M σ w (w.alloc (.cells #[.int .i64 o.kind,.int .i64 o.a,.int .i64 o.b,.int .i64 o.c,.string o.s,.string o.t] 28)):=Std.alloc ⟨⟨T,h⟩,Below.refl _ _⟩ _
 obtain ⟨ao1,cp1,hv1⟩:=hS.lenRd
 have c1:=hS.field 4 (v:=.slice ao1 0 cp1) (by show some σ.vrd=_;rw[hv1,h1])
 have HS:=hide (hS.more (Nat.le_of_lt hM) hM2)
 clear hS h hv1 h1 hk
 unfold opV
 go_enter Tryz.func34,Tryz.ntmps34
 go_wp2
 go_ret
 exact ⟨rfl,HS.out.done⟩
set_option maxRecDepth 100000 in
set_option maxHeartbeats 1600000 in
theorem used_11s {T:Tags} {base B M M':Nat} {σ:Sig} {w:World} (h:Inv T base B M σ w) (o:OpR) (hok:o.ok) (hk:o.kind=11) (hM:M<M') (hM2:M'≤1073741824) (h1:0<σ.rd.length):
  Calls Tryz.prog 34 #[.pointer (some ⟨B,0,none⟩),opV o] w fun e w'=>e = .returned (.bool true)∧Done base B M' w w':=by
 have z6:(o.kind==6)=false:=beq_eq_false_iff_ne.2 (by rw[hk];decide)
 have z7:(o.kind==7)=false:=beq_eq_false_iff_ne.2 (by rw[hk];decide)
 have z11:(o.kind==11)=true:=beq_iff_eq.2 hk
 have hS:Std base B M σ w (w.alloc (.cells #[.int .i64 o.kind,.int .i64 o.a,.int .i64 o.b,.int .i64 o.c,.string o.s,.string o.t] 28)):=Std.alloc ⟨⟨T,h⟩,Below.refl _ _⟩ _
 have e1:(w.alloc (.cells #[.int .i64 o.kind,.int .i64 o.a,.int .i64 o.b,.int .i64 o.c,.string o.s,.string o.t] 28)).cell? ⟨w.heap.size,1,none⟩=some (.int .i64 o.a):=World.cell?_alloc_at _ _ _ _ rfl
 have e2:(w.alloc (.cells #[.int .i64 o.kind,.int .i64 o.a,.int .i64 o.b,.int .i64 o.c,.string o.s,.string o.t] 28)).cell? ⟨w.heap.size,2,none⟩=some (.int .i64 o.b):=World.cell?_alloc_at _ _ _ _ rfl
 have hbd:=h.bound
 have hnf:=h.nrd
 have hoa:=hok.a
 have hob:=hok.b
 have hoc:=hok.c
 have hpk1:=pickN_lt o.a σ.rd.length h1
 obtain ⟨p1,hp1⟩:∃ p,σ.rd[pickN o.a σ.rd.length]? = some p:=⟨_,List.getElem?_eq_getElem hpk1⟩
 obtain ⟨g1,cap1,hw1,hm1,hcell1⟩:=hS.twoRd _ p1 hp1
 have hpick1:=fun w=>pick_any o.a σ.rd.length w hoa.1 hoa.2 h1 (by omega)
 have jn1:(0:Int)<(σ.rd.length:Int):=by omega
 have kp1:(pickN o.a σ.rd.length:Int)<(σ.rd.length:Int):=by omega
 have HPK1:=hide hpick1
 have HC1:=hide hcell1
 have HP1:=hide hp1
 have HN1:=hide hnf
 have HMB:=hide hbd.1
 have HKL:=hide (And.intro hM hM2)
 have HD1:=hide (show ∀ w2,Std base B M σ w w2→p1.bx≠w.heap.size∧p1.sx≠w.heap.size from fun w2 h2=>by
  obtain ⟨b1,_,_,s1,hs1,hsx,_⟩:=h.rd _ p1 hp1
  have l1:=b1.1.lt
  have l2:=(h.so _ s1 hs1).1.1.1.lt
  rw[hsx] at l2
  omega)
 have HD2:=hide (show ∀ w2,Std base B M σ w w2→p1.bx<w2.heap.size∧p1.sx<w2.heap.size from fun w2 h2=>by
  obtain ⟨⟨T2,h3⟩,_⟩:=h2
  obtain ⟨b1,_,_,s1,hs1,hsx,_⟩:=h3.rd _ p1 hp1
  have l2:=(h3.so _ s1 hs1).1.1.1.lt
  rw[hsx] at l2
  exact ⟨b1.1.lt,l2⟩)
 have HF0:=hide (show ∀ w2,Std base B M σ w w2→w2.cell? ⟨B,4,none⟩=some (.slice (some ⟨g1,0,none⟩) σ.rd.length cap1) from fun w2 h2=>h2.field 4 (by show some σ.vrd=_;rw[hw1]))
 have HS:=hide hS
 clear hS h hw1 hk hpick1 hcell1 hp1
 generalize hn1:σ.rd.length=n1 at *
 generalize pickN o.a n1=pk1 at *
 clear hn1
 have c0:=HF0.out _ HS.out
 unfold opV
 go_enter Tryz.func34,Tryz.ntmps34
 go_wp2
 refine wp_letterW (fun w'=>Std base B M σ w w'∧w'.cell? ⟨w.heap.size,1,none⟩=some (.int .i64 o.a)∧w'.cell? ⟨w.heap.size,2,none⟩=some (.int .i64 o.b)) ⟨HS.out,e1,e2⟩ ?_
 clear c0 e1 e2 HS
 rintro wq1 ⟨hS1,e1,e2⟩
 have c0:=HF0.out _ hS1
 obtain ⟨d0,d1⟩:=HC1.out _ hS1
 replace hS1:=hide hS1
 go_region_held3 (fun w'=>w'.cell? ⟨B,4,none⟩=some (.slice (some ⟨g1,0,none⟩) n1 cap1)∧w'.cell? ⟨w.heap.size,1,none⟩=some (.int .i64 o.a)∧w'.cell? ⟨w.heap.size,2,none⟩=some (.int .i64 o.b)∧w'.cell? ⟨g1,pk1*2,none⟩=some (.pointer (some ⟨p1.bx,0,none⟩))∧w'.cell? ⟨g1,pk1*2+1,none⟩=some (.pointer (some ⟨p1.bm,0,none⟩))) (refine ⟨?_,?_,?_,?_,?_⟩ <;> first | assumption | (exact World.cell?_alloc_later _ _ _ (by assumption))) ((go_at_call 48;refine (HPK1.out _).mono ?_;rintro e w' ⟨rfl,rfl⟩))
 all_goals
  have HSn:=hide ((hS1.out.alloc (.cells #[.pointer (some ⟨p1.bx,0,none⟩),.pointer (some ⟨p1.bm,0,none⟩)] 109)).drew)
  obtain ⟨⟨T9,hI9⟩,hB9⟩:=HSn.out
  obtain ⟨s,hR,hS,n1,n2,n3,n4,hn,hok1,htx,hM1,hFin⟩:=hI9.reads HP1.out
  have HRX:=hide (fun (N:Nat) h0 h1=>read_any p1.bx p1.sx s.gx (rdOf p1 s) N _ hR hS n1 n2 (Nat.lt_of_le_of_lt hn (by have:=HMB.out;omega)) h0 h1)
  have HRM:=hide (fun (N:Nat) w2 hC h0 h1=>refRead_any p1.bm p1.sm s.gm (rdOf p1 s) N w2 (hM1 w2 hC).1 (hM1 w2 hC).2 n3 n4 hok1 htx (fun _ y c _=>opn_text_len _ y c) (Nat.lt_of_le_of_lt hn (by have:=HMB.out;omega)) h0 h1)
  have HFF:=hide (fun r1 (hf:Ref.Rd.Fill (rdOf p1 s) r1)=>fill_facts hf hS.at_)
  have HNM:=hide hn
  have HFN:=hide hFin
  have HB9:=hide hB9
  have y1:((wq1.alloc (.cells #[.pointer (some ⟨p1.bx,0,none⟩),.pointer (some ⟨p1.bm,0,none⟩)] 109)).drew).cell? ⟨wq1.heap.size,1,none⟩=some (.pointer (some ⟨p1.bm,0,none⟩)):=World.cell?_alloc_at _ _ _ _ rfl
  have y2:((wq1.alloc (.cells #[.pointer (some ⟨p1.bx,0,none⟩),.pointer (some ⟨p1.bm,0,none⟩)] 109)).drew).cell? ⟨w.heap.size,2,none⟩=some (.int .i64 o.b):=World.cell?_alloc_later wq1 _ _ e2
  have hl1:w.heap.size<(wq1.alloc (.cells #[.pointer (some ⟨p1.bx,0,none⟩),.pointer (some ⟨p1.bm,0,none⟩)] 109)).drew.heap.size:=cell_lt y2
  have hl2:wq1.heap.size<(wq1.alloc (.cells #[.pointer (some ⟨p1.bx,0,none⟩),.pointer (some ⟨p1.bm,0,none⟩)] 109)).drew.heap.size:=cell_lt y1
  have hd1:=HD1.out wq1 hS1.out
  have hd2:=HD2.out wq1 hS1.out
  have HY:=hide (fun w2 (hb2:Chg (fun x=>x=p1.bx∨x=p1.sx) (wq1.alloc (.cells #[.pointer (some ⟨p1.bx,0,none⟩),.pointer (some ⟨p1.bm,0,none⟩)] 109)).drew w2)=>And.intro ((chg_cell hb2 hl2 (fun e=>e.elim (fun e=>absurd e (Nat.ne_of_gt hd2.1)) (fun e=>absurd e (Nat.ne_of_gt hd2.2)))).trans y1) ((chg_cell hb2 hl1 (fun e=>e.elim (fun e=>hd1.1 e.symm) (fun e=>hd1.2 e.symm))).trans y2))
  clear c0 d0 d1 e1 hS1 HF0 HC1 hl1 hl2 hI9 hB9 hR hS n1 n2 n3 n4 hn hok1 htx hM1 hFin hd1 hd2 HD1 HD2
  by_cases hpos:0<o.b
  ·obtain ⟨N,hN⟩:∃ N:Nat,o.b=(N:Int):=⟨o.b.toNat,by omega⟩
   have hpos2:0<N:=by omega
   have hN2:N≤9223372036854775807:=by omega
   have HRX1:=hide (HRX.out N hpos2 hN2)
   have HRM1:=hide (fun w2 hC=>HRM.out N w2 hC hpos2 hN2)
   rw[←hN] at HRX1 HRM1
   clear HRX HRM hN hpos y1 hpos2 hN2
   go_wp2_with fail
   refine HRX1.out.mono ?_
   rintro e w2 ⟨r1,hf,rfl,hR2,hS2,hC2⟩
   obtain ⟨y1,y2'⟩:=HY.out w2 hC2
   have HM2:=hide (HRM1.out w2 hC2)
   have HF:=hide hf
   have HW2:=hide (And.intro hR2 (And.intro hS2 hC2))
   clear HY HRX1 HRM1 hf hR2 hS2 hC2 y2 e2
   go_wp2_with fail
   refine HM2.out.mono ?_
   rintro e w3 ⟨r2,hf2,rfl,hR3,hS3,hC3⟩
   obtain rfl:=HF.out.det hf2
   obtain ⟨q1,q2,q3⟩:=HFF.out r1 hf2
   have HDN:=hide (Done.from HB9.out (HFN.out M' (r1.tell N) w2 w3 (Nat.le_of_lt HKL.out.1) HKL.out.2 HW2.out.1 HW2.out.2.1 HW2.out.2.2 hR3 hS3 hC3 q2 q3 (Nat.le_trans q1 (by have h1:=HNM.out;have h2:=HKL.out.1;show p1.n+1≤M';omega))))
   generalize (⟨(r1.ans N).1.toArray⟩:ByteArray)=bt at *
   generalize (r1.ans N).2=be at *
   clear hf2 hR3 hS3 hC3 q1 q2 q3 HM2 HF HW2 y1 y2'
   go_wp2
   go_ret
   exact ⟨by simp,HDN.out⟩
  ·have hle:o.b≤0:=by omega
   have HRX1:=hide (fun w'=>readNo_any p1.bx o.b w' hle)
   have HRM1:=hide (fun w'=>refReadNo_any p1.bm o.b w' hle)
   generalize (if o.b<0 then (2:Int) else 0)=cc at *
   clear HRX HRM HY hle hpos
   go_wp2_with fail
   refine (HRX1.out _).mono ?_
   rintro e w2 ⟨rfl,rfl⟩
   go_wp2_with fail
   refine (HRM1.out _).mono ?_
   rintro e w2 ⟨rfl,rfl⟩
   clear y1 y2
   go_wp2
   go_ret
   exact ⟨by simp,(HSn.out.more (Nat.le_of_lt HKL.out.1) HKL.out.2).done⟩
theorem whole_topS {x:Src} {k:Nat} (h:x.at_+(k+1)≤x.s.size):Hd.whole (topS x (k+1))↔Hd.wholeAt x.rest k:=by
 unfold Hd.whole
 rw[topS_size h,topS_list,Nat.add_sub_cancel,Hd.whole_take]
 exact ⟨fun h=>h.2,fun h=>⟨Nat.succ_pos _,h⟩⟩
theorem whole_topS0 (x:Src):¬ Hd.whole (topS x 0):=by
 unfold Hd.whole
 intro h
 have:(topS x 0).size=0:=by unfold topS;rw[ByteArray.size_extract];omega
 omega
theorem top_over {m:List UInt8} {x y:Src} {j c:Nat} (h:Src.Top x.rest x 0 y j c) (hx:x.at_≤x.s.size) (ho:(Ref.opnA m (topS x j)).2=0):c≠1:=by
 intro hc
 have L:=h.left hx
 have hno:=(L.over hc).2
 have hz:=L.size
 rw[L.s,L.at_] at hz
 rcases parAns_facts (topS x j) with ⟨a,b,_⟩ | ⟨_,hO,hT⟩
 ·unfold Ref.opnA at ho
  rw[if_pos a] at ho
  exact a ho
 ·generalize (Hd.parAns (topS x j)).1.ss=ss at *
  generalize (Hd.parAns (topS x j)).1.bs=bs at *
  generalize (Hd.parAns (topS x j)).1.mac=mac at *
  have htl:x.rest.take j=Hd.text ss bs mac:=by rw[←topS_list,hT];rfl
  have hl:(Hd.text ss bs mac).length=j:=by
   rw[←htl,←topS_list,ba_len,topS_size (by omega)]
  have hw:=(hO.top []).1
  rw[List.append_nil,hl,←htl] at hw
  have hp:0<j:=by
   have:=hO.size_eq
   have h2:(Hd.ofL (Hd.text ss bs mac)).size=j:=by rw[←hT,topS_size (by omega)]
   omega
  obtain ⟨i,rfl⟩:∃ i,j=i+1:=⟨j-1,by omega⟩
  rw[Nat.add_sub_cancel,Hd.whole_take] at hw
  exact hno i (Nat.zero_le _) (Nat.lt_succ_self _) hw
def NewRM (m:ByteArray) (b g:Nat) (x:Src) (w:World) (e:Ending) (w':World):Prop:=∃ y k key pv,Ref.New m.data.toList x y k key∧e = .returned (.tuple #[pv,.int .i64 k])∧(k≠0→pv = .pointer none)∧(k=0→∃ rb,w.heap.size≤rb∧pv = .pointer (some ⟨rb,0,none⟩)∧RmRep rb b ⟨y,key,0,[],[],0⟩ w')∧SrcRep b g y w'∧w.grownBy w' (some b)
def HdR (rb b g:Nat) (x:Src) (w:World) (vw vn:Value) (wr:World):Prop:=∃ (y:Src) (k:Nat) (fin wh:Bool),k≤284∧vw = .bool wh∧vn = .int .i64 ((k+1+(if fin then 1 else 0):Nat):Int)∧Blk wr rb 185 (rmV b (topS x k) fin ⟨#[]⟩ 0 ⟨#[]⟩ 0)∧SrcRep b g y wr∧Chg (fun i=>i=b) w wr∧y.s=x.s∧y.plan=x.plan∧y.at_=x.at_+k ∧
 (wh=false→fin=false→¬ Hd.whole (topS x k)∧∀ z j c,Src.Top x.rest y k z j c→Src.Top x.rest x 0 z j c)∧(wh=true→fin=false∧Src.Top x.rest x 0 y k 0)∧(fin=true→wh=false∧Src.Top x.rest x 0 y k 1)
theorem Chg.new {w w1 w2:World} {rb b:Nat} (h1:Chg (fun i=>i=b) w w1) (h2:Chg (fun k=>k=rb∨k=b) w1 w2) (h:w.heap.size≤rb):Chg (fun i=>i=b) w w2:=
 ⟨h2.os.trans h1.os,h2.tape.trans h1.tape,h2.output.trans h1.output,Nat.le_trans h1.size h2.size,fun k hk hs=>(h2.block k (Nat.lt_of_lt_of_le hk h1.size) (fun e=>e.elim (fun e=>by omega) hs)).trans (h1.block k hk hs)⟩
theorem Chg.grown {w w1:World} {b:Nat} (h:Chg (fun i=>i=b) w w1):w.grownBy w1 (some b):=⟨h.os,h.tape,h.output,h.size,fun k hk hn=>h.block k hk (fun e=>hn (by rw[e]))⟩
theorem gotS_none (y z:Src):gotS ⟨#[]⟩ y z=y.s.extract y.at_ z.at_:=ba_ext (by unfold gotS;rw[ba_list];rfl)
theorem topS_more {x y z:Src} {k:Nat} (hs:y.s=x.s) (hy:y.at_=x.at_+k) (h2:y.at_≤z.at_) (hz:z.at_≤x.s.size):gotS (topS x k) y z=topS x (k+(z.at_-y.at_)):=by
 unfold gotS topS
 rw[hs,hy,ext_more _ _ _ _ (by omega) (by omega) hz,show x.at_+(k+(z.at_-(x.at_+k)))=z.at_ by omega]
set_option maxRecDepth 100000 in
set_option maxHeartbeats 12800000 in
theorem refNewReader_any (m:ByteArray) (b g:Nat) (x:Src) (w:World) (hS:SrcRep b g x w):
  Calls Tryz.prog 77 #[.string m,.pointer (some ⟨b,0,none⟩)] w (NewRM m b g x w):=by
 generalize hPP:NewRM m b g x w=PP
 by_cases hl:m.size=32
 ·have jl:((m.size:Int)==32)=true:=by rw[beq_iff_eq];omega
  have jl2:((m.size:Int) != 32)=false:=by simp only[bne,jl];rfl
  have HML:=hide (show m.data.toList.length=32 by rw[ba_len,hl])
  have hxa:=hS.at_
  have hbl:=hS.hb.lt
  have hgl:=hS.hg.lt
  have hb0:Below w.heap.size w (w.alloc (.cells #[.pointer (some ⟨b,0,none⟩),.string ⟨#[]⟩,.bool false,.string ⟨#[]⟩,.int .i64 0,.string ⟨#[]⟩,.int .i64 0] 185)):=(Below.refl _ _).alloc (Nat.le_refl _) _
  have hB0:Blk (w.alloc (.cells #[.pointer (some ⟨b,0,none⟩),.string ⟨#[]⟩,.bool false,.string ⟨#[]⟩,.int .i64 0,.string ⟨#[]⟩,.int .i64 0] 185)) w.heap.size 185 (rmV b ⟨#[]⟩ false ⟨#[]⟩ 0 ⟨#[]⟩ 0):=Blk.new rfl rfl
  have ht0:topS x 0=⟨#[]⟩:=ba_ext (by rw[topS_list];rfl)
  have H0:=hide (show HdR w.heap.size b g x w (.bool false) (.int .i64 1) (w.alloc (.cells #[.pointer (some ⟨b,0,none⟩),.string ⟨#[]⟩,.bool false,.string ⟨#[]⟩,.int .i64 0,.string ⟨#[]⟩,.int .i64 0] 185)) from
   ⟨x,0,false,false,Nat.zero_le _,rfl,rfl,by rw[ht0];exact hB0,hS.after hb0,Chg.of_below hb0,rfl,rfl,rfl,fun _ _=>⟨whole_topS0 x,fun z j c h=>h⟩,(fun h=>by cases h),(fun h=>by cases h)⟩)
  obtain ⟨rb,hrb⟩:∃ rb,w.heap.size=rb:=⟨_,rfl⟩
  have hrbb:rb≠b:=by omega
  have hrbg:rb≠g:=by omega
  have HRB:=hide (Nat.le_of_eq hrb)
  rw[hrb] at H0
  clear hS hb0 hB0 ht0 hl jl
  go_enter Tryz.func77,Tryz.ntmps77
  go_wp2
  go_loopw [7,8] (fun vw vn wr=>HdR rb b g x w vw vn wr) (fun _ vn _=>400-(intOf vn).toNat)
  case atStart=>exact H0.out
  case round=>
   clear H0
   obtain ⟨y,k,fin,wh,hk284,rfl,rfl,hB,hSy,hC,hys,hyp,hya,hgo,hwh,hfi⟩:=hrel
   have hyz:=hSy.at_
   rw[hys,hya] at hyz
   have c1:=hB.cell (i:=1) rfl
   have c2:=hB.cell (i:=2) rfl
   have HB:=hide hB
   have HSY:=hide hSy
   have HC:=hide hC
   by_cases hrun:wh=false∧fin=false∧k<284
   ·obtain ⟨rfl,rfl,hlt⟩:=hrun
    obtain ⟨hnw,hkk⟩:=hgo rfl rfl
    have hts:(topS x k).size=k:=topS_size hyz
    obtain ⟨n1,hn1⟩:∃ n1:Nat,k+1=n1:=⟨_,rfl⟩
    have tn:(k:Int)+1=(n1:Int):=by omega
    have jn:(n1:Int)≤284:=by omega
    have hn1b:n1≤284:=by omega
    have HAS:=hide (refAsk_any rb b g y (topS x k) n1 ⟨#[]⟩ 0 ⟨#[]⟩ 0 wr hB hSy hrbb hrbg (by omega) (by omega))
    rw[hts,show n1-k=1 by omega] at HAS
    have HKK:=hide hkk
    have HNW:=hide hnw
    have HN1:=hide hn1
    have HLT:=hide hlt
    have hya2:=hSy.at_
    clear hgo hwh hfi hB hSy hC hkk hnw hn1 hlt hk284
    go_wp2_with fail
    refine HAS.out.mono ?_
    rintro e w1 ⟨z,c,hA,rfl,hB1,hS1,hC1⟩
    have L:=hA.left hya2
    have hcode:=L.code
    have hge:=L.ge
    have hle:=L.le
    have hzs:=L.size
    rw[L.s,hys] at hzs
    have HOV:=hide L.over
    have HAL:=hide L.all
    have HZP:=hide (And.intro (L.s.trans hys) (L.plan.trans hyp))
    rw[topS_more hys hya hge hzs] at hB1
    have HS1:=hide hS1
    have HC1:=hide (HC.out.new hC1 HRB.out)
    have HA:=hide hA
    have HB1:=hide hB1
    clear HAS hA hS1 hC1 L c1 c2 HB HC HSY
    have h012:c=0∨c=1∨c=2:=by omega
    rcases h012 with rfl | rfl | rfl
    ·have hz:=HAL.out rfl
     have hb1:=HB1.out
     rw[show k+(z.at_-y.at_)=k+1 by omega] at hb1
     have hwi:=whole_topS (x:=x) (k:=k) (by omega)
     have HZA:=hide (show z.at_=x.at_+(k+1) by omega)
     have c1:=hb1.cell (i:=1) rfl
     have hts2:(topS x (k+1)).size=k+1:=topS_size (by omega)
     have HWL:=hide (fun w'=>refWhole_any (topS x (k+1)) w' (by omega))
     have HB1':=hide hb1
     clear hb1 HB1 hz hts2
     by_cases hwh2:Hd.wholeAt x.rest k
     ·rw[decide_eq_true (hwi.2 hwh2)] at HWL
      have HTP:=hide (HKK.out z (k+1) 0 (Src.Top.hit y z k HLT.out HA.out hwh2))
      clear hwi hwh2
      go_wp2_with fail
      refine (HWL.out _).mono ?_
      rintro e w2 ⟨rfl,hb2⟩
      have HB2:=hide (HB1'.out.below hb2 HB1'.out.lt)
      have HS2:=hide (HS1.out.after hb2)
      have HC2:=hide (HC1.out.trans (Chg.of_below hb2))
      clear HWL hb2 HB1' HS1 HC1 c1
      go_wp2
      go_roundw
      case rel=>exact ⟨z,k+1,false,true,HLT.out,rfl,(by have h:=HN1.out;subst h;go_num),HB2.out,HS2.out,HC2.out,HZP.out.1,HZP.out.2,HZA.out,(fun h=>by cases h),fun _=>⟨rfl,HTP.out⟩,(fun h=>by cases h)⟩
      case measure=>have h:=HN1.out;simp[intOf];omega
     ·rw[decide_eq_false (fun h=>hwh2 (hwi.1 h))] at HWL
      have HGO:=hide (And.intro (fun h=>hwh2 (hwi.1 h)) (fun z' j c h=>HKK.out z' j c (Src.Top.more y z z' k j c HLT.out HA.out hwh2 h)))
      clear hwi hwh2
      go_wp2_with fail
      refine (HWL.out _).mono ?_
      rintro e w2 ⟨rfl,hb2⟩
      have HB2:=hide (HB1'.out.below hb2 HB1'.out.lt)
      have HS2:=hide (HS1.out.after hb2)
      have HC2:=hide (HC1.out.trans (Chg.of_below hb2))
      clear HWL hb2 HB1' HS1 HC1 c1
      go_wp2
      go_roundw
      case rel=>exact ⟨z,k+1,false,false,HLT.out,rfl,(by have h:=HN1.out;subst h;go_num),HB2.out,HS2.out,HC2.out,HZP.out.1,HZP.out.2,HZA.out,fun _ _=>HGO.out,(fun h=>by cases h),(fun h=>by cases h)⟩
      case measure=>have h:=HN1.out;simp[intOf];omega
    ·have hz:=HOV.out rfl
     have hb1:=HB1.out
     rw[show k+(z.at_-y.at_)=k by omega] at hb1
     have HZA:=hide (show z.at_=x.at_+k by omega)
     have c1:=hb1.cell (i:=1) rfl
     have HWL:=hide (fun w'=>refWhole_any (topS x k) w' (by omega))
     rw[decide_eq_false HNW.out] at HWL
     have HB1':=hide hb1
     have HTP:=hide (HKK.out z k 1 (Src.Top.over y z k HLT.out HA.out))
     clear hb1 HB1 hz
     go_wp2_with fail
     refine (HWL.out _).mono ?_
     rintro e w2 ⟨rfl,hb2⟩
     have HB2:=hide (HB1'.out.below hb2 HB1'.out.lt)
     have HS2:=hide (HS1.out.after hb2)
     have HC2:=hide (HC1.out.trans (Chg.of_below hb2))
     clear HWL hb2 HB1' HS1 HC1 c1
     go_wp2
     go_roundw
     case rel=>exact ⟨z,k,true,false,Nat.le_of_lt HLT.out,rfl,(by have h:=HN1.out;subst h;go_num),HB2.out,HS2.out,HC2.out,HZP.out.1,HZP.out.2,HZA.out,(fun _ h=>by cases h),(fun h=>by cases h),fun _=>⟨rfl,HTP.out⟩⟩
     case measure=>have h:=HN1.out;simp[intOf];omega
    ·have HTP:=hide (Ref.New.src (m:=m.data.toList) (x:=x) z k HML.out (HKK.out z k 2 (Src.Top.fail y z k HLT.out HA.out)))
     go_wp2
     rw[←hPP]
     exact ⟨z,17,[],_,HTP.out,rfl,fun _=>rfl,fun h=>absurd h (by decide),HS1.out,HC1.out.grown⟩
   ·obtain ⟨c,HTP,hc2,hfc⟩:∃ c,Hid (Src.Top x.rest x 0 y k c)∧c≠2∧fin=decide (c=1):=by
     cases wh with
     | true=>obtain ⟨a,h⟩:=hwh rfl;exact ⟨0,hide h,by decide,a⟩
     | false=>
      cases fin with
      | true=>exact ⟨1,hide (hfi rfl).2,by decide,rfl⟩
      | false=>
       have:k=284:=by
        rcases Nat.lt_or_ge k 284 with q | q
        ·exact absurd ⟨rfl,rfl,q⟩ hrun
        ·omega
       exact ⟨0,hide ((hgo rfl rfl).2 y k 0 (Src.Top.full y k (by omega))),by decide,rfl⟩
    have hov:(Ref.opnA m.data.toList (topS x k)).2=0→fin=false:=fun h=>by rw[hfc];exact decide_eq_false (top_over HTP.out hxa h)
    have hcond:(wh=true∧fin=false∧(k:Int)+1≤284)∨(wh=true∧fin=false∧¬ (k:Int)+1≤284)∨(wh=false∧fin=true∧(k:Int)+1+1≤284)∨(wh=false∧fin=true∧¬ (k:Int)+1+1≤284)∨(wh=false∧fin=false∧k=284):=by
     cases wh with
     | true=>
      by_cases q:(k:Int)+1≤284
      ·exact .inl ⟨rfl,(hwh rfl).1,q⟩
      ·exact .inr (.inl ⟨rfl,(hwh rfl).1,q⟩)
     | false=>
      cases fin with
      | true=>
       by_cases q:(k:Int)+1+1≤284
       ·exact .inr (.inr (.inl ⟨rfl,rfl,q⟩))
       ·exact .inr (.inr (.inr (.inl ⟨rfl,rfl,q⟩)))
      | false=>exact .inr (.inr (.inr (.inr ⟨rfl,rfl,by
        rcases Nat.lt_or_ge k 284 with q | q
        ·exact absurd ⟨rfl,rfl,q⟩ hrun
        ·omega⟩)))
    have HNT:=hide (fun (h:(Ref.opnA m.data.toList (topS x k)).2≠0)=>Ref.New.top (m:=m.data.toList) (x:=x) y k c HML.out HTP.out hc2 h)
    have HNC:=hide (fun z d (h:(Ref.opnA m.data.toList (topS x k)).2=0) ha hd=>Ref.New.cut (m:=m.data.toList) (x:=x) y k c z d HML.out HTP.out hc2 h ha hd)
    have HNO:=hide (fun z (h:(Ref.opnA m.data.toList (topS x k)).2=0) ha=>Ref.New.ok (m:=m.data.toList) (x:=x) y k c z HML.out HTP.out hc2 h ha)
    have HOV:=hide hov
    have hts:(topS x k).size=k:=topS_size hyz
    have HPA:=hide (fun w'=>headParse_any (topS x k) w' (by omega))
    have HOL:=hide (Ref.opnA_len m.data.toList (topS x k))
    have hpc:Hd.parAns (topS x k)=(Hd.nil,6)∨∃ ss bs mac,Hd.Ok ss bs mac∧topS x k=Hd.ofL (Hd.text ss bs mac)∧Hd.parAns (topS x k)=(⟨ss,bs,mac⟩,0):=Hd.parAns_cases (topS x k)
    clear hgo hwh hfi hrun HTP hc2 hfc hov hB hSy hC
    rcases hpc with hp | ⟨ss,bs,mac,hO,hT,hp⟩
    ·have ho6:Ref.opnA m.data.toList (topS x k)=([],6):=opnA_bad hp
     rw[hp] at HPA
     have HN6:=hide (show Ref.New m.data.toList x y 6 [] by have h:=HNT.out (by rw[ho6];decide);rw[ho6] at h;exact h)
     generalize topS x k=tk at *
     clear HNT HNC HNO HOV HOL ho6 hp
     rcases hcond with ⟨rfl,rfl,hcd⟩ | ⟨rfl,rfl,hcd⟩ | ⟨rfl,rfl,hcd⟩ | ⟨rfl,rfl,hcd⟩ | ⟨rfl,rfl,rfl⟩
     all_goals
      go_wp2_with fail
      refine (HPA.out _).mono ?_
      rintro e w1 ⟨vs,vb,rfl,hr1,hr2,hb1⟩
      obtain ⟨o1,k1,rfl,_⟩:=Row.anyN hr1
      obtain ⟨o2,k2,rfl,_⟩:=Row.anyN hr2
      have hbA:Below w1.heap.size w1 (w1.alloc (.cells #[.slice o1 0 k1,.slice o2 0 k2,.string ⟨#[]⟩] 155)):=(Below.refl _ _).alloc (Nat.le_refl _) _
      have HS1:=hide ((HSY.out.after hb1).after hbA)
      have HC1:=hide ((HC.out.trans (Chg.of_below hb1)).trans (Chg.of_below hbA))
      clear HPA hr1 hr2 hb1 hbA
      go_wp2
      rw[←hPP]
      exact ⟨y,6,[],_,HN6.out,rfl,fun _=>rfl,fun h=>absurd h (by decide),HS1.out,HC1.out.grown⟩
    ·have hq:=opsA_eq (m:=m.data.toList) hp hO hT
     obtain ⟨op,hop⟩:∃ q,Ref.opsA m.data.toList ss bs mac=q:=⟨_,rfl⟩
     have HOP:=hide (fun hb vs vb (w':World) (h0:OpS w' hb vs vb mac ss bs w')=>refOpens_any m hb vs vb mac ss bs w' h0 hO (by have h:=HML.out;rw[ba_len] at h;omega))
     rw[hop] at HOP hq
     rw[hp] at HPA
     rw[hq] at HNT HNC HNO HOV HOL
     change Hid (∀ w:World,Calls Tryz.prog 124 #[.string (topS x k)] w fun e w'=>∃ vs vb,e = .returned (.tuple #[.agg #[vs,vb,.string mac],.int .i64 0]) ∧
      Row w' w.heap.size 9 1 vs ss.length (strV ss)∧Row w' w.heap.size 9 1 vb bs.length (strV bs)∧Below w.heap.size w w') at HPA
     obtain ⟨ot,oe⟩:=op
     unfold ansV at HOP
     generalize topS x k=tk at *
     clear hop hq hp hO hT
     by_cases hoe:oe=0
     ·subst hoe
      obtain rfl:=HOV.out (by first | rfl | trivial)
      have HAK:=hide (fun (w':World) (hB':Blk w' rb 185 (rmV b ⟨#[]⟩ false ⟨#[]⟩ 0 ⟨#[]⟩ 0)) (hS':SrcRep b g y w')=>refAsk_any rb b g y ⟨#[]⟩ 16 ⟨#[]⟩ 0 ⟨#[]⟩ 0 w' hB' hS' hrbb hrbg (Nat.zero_le _) (by decide))
      rw[show 16-(⟨#[]⟩:ByteArray).size=16 from rfl] at HAK
      have hya2:=HSY.out.at_
      have HKY:=hide (fun (t:ByteArray) (h:t.size≤1000) w'=>refKey_any ⟨ot.toArray⟩ t ⟨#[112,97,121,108,111,97,100]⟩ w' (by rw[two_size];have:=HOL.out;simp only at this;omega) (by omega) (by decide))
      rw[two_toList] at HKY
      generalize (⟨ot.toArray⟩:ByteArray)=ob at *
      clear HNT HOV HOL
      rcases hcond with ⟨rfl,hq1,hcd⟩ | ⟨rfl,hq1,hcd⟩ | ⟨_,h,_⟩ | ⟨_,h,_⟩ | ⟨rfl,hq1,rfl⟩
      case inr.inr.inl=>cases h
      case inr.inr.inr.inl=>cases h
      all_goals
       clear hq1
       go_wp2_with fail
       refine (HPA.out _).mono ?_
       rintro e w1 ⟨vs,vb,rfl,hr1,hr2,hb1⟩
       have hbA:Below w1.heap.size w1 (w1.alloc (.cells #[vs,vb,.string mac] 155)):=(Below.refl _ _).alloc (Nat.le_refl _) _
       have hB2:Blk (w1.alloc (.cells #[vs,vb,.string mac] 155)) w1.heap.size 155 [vs,vb,.string mac]:=Blk.new rfl rfl
       have HO2:=hide (HOP.out w1.heap.size vs vb _ ⟨hB2,Below.refl _ _,(Row.strs hr1).after hbA,(Row.strs hr2).after hbA⟩)
       have HB2:=hide ((HB.out.below hb1 HB.out.lt).below hbA (Nat.lt_of_lt_of_le HB.out.lt hb1.size))
       have HS2:=hide ((HSY.out.after hb1).after hbA)
       have HC2:=hide ((HC.out.trans (Chg.of_below hb1)).trans (Chg.of_below hbA))
       obtain ⟨o1,k1,rfl,_⟩:=Row.anyN hr1
       obtain ⟨o2,k2,rfl,_⟩:=Row.anyN hr2
       clear HPA hr1 hr2 hb1 hbA hB2 HOP c1 c2 HB HSY HC
       go_wp2_with fail
       refine HO2.out.mono ?_
       rintro e w3 ⟨rfl,hb3⟩
       have hB3:=HB2.out.below hb3 HB2.out.lt
       have HC3:=hide (HC2.out.trans (Chg.of_below hb3))
       have c1:=hB3.cell (i:=1) rfl
       have fz:=hB3.frozen
       have hG4:=(World.grownBy.refl w3 (some rb)).setCell 1 (.string ⟨#[]⟩)
       have HA4:=hide (HAK.out _ (show Blk (w3.setCell ⟨rb,1,none⟩ (.string ⟨#[]⟩)) rb 185 (rmV b ⟨#[]⟩ false ⟨#[]⟩ 0 ⟨#[]⟩ 0) from hB3.setCell_same 1 _) ((HS2.out.after hb3).keep hG4 hrbb hrbg))
       have HC4:=hide (HC3.out.new (rb:=rb) (Chg.of_grown hG4 (.inl rfl)) HRB.out)
       clear HO2 hb3 hB3 HB2 HS2 HC2 HC3 hG4 HAK
       go_wp2_with fail
       refine HA4.out.mono ?_
       rintro e w5 ⟨z,d,hA,rfl,hB5,hS5,hC5⟩
       have L:=hA.left hya2
       have hcode:=L.code
       have hge:=L.ge
       have hzs:=L.size
       rw[L.s] at hzs
       have HSH:=hide L.short
       have HAL:=hide L.all
       have hgs:=gotS_size (got:=⟨#[]⟩) hge hzs
       have HG5:=hide (gotS_none y z)
       have HC5:=hide (HC4.out.new hC5 HRB.out)
       have HS5:=hide hS5
       have HA:=hide hA
       have c1:=hB5.cell (i:=1) rfl
       have c3:=hB5.cell (i:=3) rfl
       have HB5:=hide hB5
       generalize hgG:gotS ⟨#[]⟩ y z=G at *
       have hgs2:G.size=z.at_-y.at_:=by rw[hgs];exact Nat.zero_add _
       clear HA4 hA hB5 hS5 hC5 L HC4 fz hgs
       have h012:d=0∨d=1∨d=2:=by omega
       rcases h012 with rfl | rfl | rfl
       ·have hz:=HAL.out rfl
        obtain rfl:G=topS y 16:=by rw[HG5.out];unfold topS;rw[hz]
        have hT16:(topS y 16).size=16:=by omega
        have HKK:=hide (HKY.out (topS y 16) (by omega) w5)
        have HNK:=hide (HNO.out z (by first | rfl | trivial) HA.out)
        rw[show (expO (macL (topS y 16).data.toList ot) (⟨#[112,97,121,108,111,97,100]⟩:ByteArray).data.toList 1).take 32=Ref.keyL ot (topS y 16).data.toList Ref.inBody from rfl] at HKK
        change Hid (Ref.New m.data.toList x z 0 (Ref.keyL ot (topS y 16).data.toList Ref.inBody)) at HNK
        generalize Ref.keyL ot (topS y 16).data.toList Ref.inBody=kl at *
        generalize hTK:topS y 16=TK at *
        generalize hKL:(⟨kl.toArray⟩:ByteArray)=KL at *
        have HKL:=hide hKL
        clear HKY hz hgs2 HNO HNC hgG hTK hKL HG5
        go_wp2_with fail
        refine HKK.out.mono ?_
        rintro e w6 ⟨rfl,hb6⟩
        have hB6:=HB5.out.below hb6 HB5.out.lt
        have c1:=hB6.cell (i:=1) rfl
        have c3:=hB6.cell (i:=3) rfl
        have fz:=hB6.frozen
        have hG7:=((World.grownBy.refl w6 (some rb)).setCell 3 (.string KL)).setCell 1 (.string ⟨#[]⟩)
        have HB7:=hide (show Blk ((w6.setCell ⟨rb,3,none⟩ (.string KL)).setCell ⟨rb,1,none⟩ (.string ⟨#[]⟩)) rb 185 (rmV b ⟨#[]⟩ (decide ((0:Nat)=1)) KL 0 ⟨#[]⟩ 0) from (hB6.setCell_same 3 _).setCell_same 1 _)
        have HS7:=hide ((HS5.out.after hb6).keep hG7 hrbb hrbg)
        have HC7:=hide (((HC5.out.trans (Chg.of_below hb6))).new (rb:=rb) (Chg.of_grown hG7 (.inl rfl)) HRB.out)
        clear HKK hb6 hB6 hG7 HS5 HC5 HB5
        go_wp2
        rw[←hPP]
        exact ⟨z,0,kl,_,HNK.out,rfl,fun h=>absurd rfl h,fun _=>⟨rb,HRB.out,rfl,⟨⟨#[]⟩,false,KL,0,HB7.out,fun _=>⟨rfl,rfl,HKL.out.symm,rfl⟩⟩⟩,HS7.out,HC7.out.grown⟩
       ·have hz:=HSH.out (by decide)
        obtain ⟨N,hN⟩:∃ N:Nat,G.size=N:=⟨_,rfl⟩
        have jN:(N:Int)<16:=by omega
        have HNK:=hide (HNC.out z 1 (by first | rfl | trivial) HA.out (by decide))
        clear hz hgs2 HNO HNC hgG HG5 HKY
        go_wp2
        rw[←hPP]
        exact ⟨z,10,[],_,HNK.out,rfl,fun _=>rfl,fun h=>absurd h (by decide),HS5.out,HC5.out.grown⟩
       ·have HNK:=hide (HNC.out z 2 (by first | rfl | trivial) HA.out (by decide))
        clear hgs2 HNO HNC hgG HG5 HKY
        go_wp2
        rw[←hPP]
        exact ⟨z,17,[],_,HNK.out,rfl,fun _=>rfl,fun h=>absurd h (by decide),HS5.out,HC5.out.grown⟩
     ·have z1:(oe != 0)=true:=by rw[bne_iff_ne];exact hoe
      have HN6:=hide (HNT.out hoe)
      have HH:=hide hoe
      generalize (⟨ot.toArray⟩:ByteArray)=ob at *
      clear HNT HNC HNO HOV HOL hoe
      rcases hcond with ⟨rfl,rfl,hcd⟩ | ⟨rfl,rfl,hcd⟩ | ⟨rfl,rfl,hcd⟩ | ⟨rfl,rfl,hcd⟩ | ⟨rfl,rfl,rfl⟩
      all_goals
       go_wp2_with fail
       refine (HPA.out _).mono ?_
       rintro e w1 ⟨vs,vb,rfl,hr1,hr2,hb1⟩
       have hbA:Below w1.heap.size w1 (w1.alloc (.cells #[vs,vb,.string mac] 155)):=(Below.refl _ _).alloc (Nat.le_refl _) _
       have hB2:Blk (w1.alloc (.cells #[vs,vb,.string mac] 155)) w1.heap.size 155 [vs,vb,.string mac]:=Blk.new rfl rfl
       have HO2:=hide (HOP.out w1.heap.size vs vb _ ⟨hB2,Below.refl _ _,(Row.strs hr1).after hbA,(Row.strs hr2).after hbA⟩)
       have HS2:=hide ((HSY.out.after hb1).after hbA)
       have HC2:=hide ((HC.out.trans (Chg.of_below hb1)).trans (Chg.of_below hbA))
       obtain ⟨o1,k1,rfl,_⟩:=Row.anyN hr1
       obtain ⟨o2,k2,rfl,_⟩:=Row.anyN hr2
       clear HPA hr1 hr2 hb1 hbA hB2 HOP c1 c2 HB HSY HC
       go_wp2_with fail
       refine HO2.out.mono ?_
       rintro e w3 ⟨rfl,hb3⟩
       have HS3:=hide (HS2.out.after hb3)
       have HC3:=hide (HC2.out.trans (Chg.of_below hb3))
       clear HO2 hb3 HS2 HC2
       go_wp2
       rw[←hPP]
       exact ⟨y,oe,[],_,HN6.out,rfl,fun _=>rfl,fun h=>absurd h HH.out,HS3.out,HC3.out.grown⟩
 ·have jl:((m.size:Int)==32)=false:=beq_eq_false_iff_ne.2 (by omega)
  have jl2:((m.size:Int) != 32)=true:=by simp only[bne,jl];rfl
  have HN:=hide (Ref.New.len (m:=m.data.toList) (x:=x) (by rw[ba_len];exact hl))
  have HS:=hide hS
  clear hS hl jl
  go_enter Tryz.func77,Tryz.ntmps77
  go_wp2
  rw[←hPP]
  exact ⟨x,1,[],_,HN.out,rfl,fun _=>rfl,fun h=>absurd h (by decide),HS.out,World.grownBy.refl _ _⟩
theorem infoRe:(Tryz.prog.info? 109).map (fun i=>(i.zero,i.size,i.bytes))=some (some (.agg #[.pointer none,.pointer none]),2,16):=by kernel_rfl
theorem Inv.news {T:Tags} {base B M:Nat} {σ:Sig} {w:World} (h:Inv T base B M σ w) {j:Nat} {s:SourceR} (hs:σ.so[j]? = some s):
  SrcRep s.bx s.gx s.src w∧2≤s.bx∧s.bm<w.heap.size∧(∀ w2,w.grownBy w2 (some s.bx)→SrcRep s.bm s.gm s.src w2) ∧
   (∀ M' y w2 w3,M≤M'→M'≤1073741824→w.grownBy w2 (some s.bx)→SrcRep s.bx s.gx y w2→w2.grownBy w3 (some s.bm)→SrcRep s.bm s.gm y w3→y.s=s.src.s→y.plan=s.src.plan →
    ∃ T',Inv T' base B M' { σ with so:=σ.so.set j (s.turn y) } w3∧Below base w w3∧(∀ g,w.heap.size≤g→g<w2.heap.size→T' g=(38,σ.rd.length))∧(∀ g,w2.heap.size≤g→T' g=(39,σ.rd.length))):=by
 obtain ⟨⟨a1,a2⟩,a3,a4⟩:=h.so j s hs
 obtain ⟨r1,r2⟩:=SoK.rep h hs
 have ne:∀ {x y:Nat} {c d:Nat × Nat},T x=c→T y=d→c≠d→x≠y:=fun h1 h2 hcd e=>hcd (by rw[←h1,←h2,e])
 have n8:s.bm≠s.bx:=ne a3.2 a1.2 (by simp)
 have n10:s.gm≠s.bx:=ne a4.2 a1.2 (by simp)
 have n12:s.gx≠s.bm:=ne a2.2 a3.2 (by simp)
 have h2:2≤s.bx:=by
  rcases Nat.lt_or_ge s.bx base with q | q
  ·have:=(h.old _ q).symm.trans a1.2
   simp at this
  ·exact Nat.le_trans h.two q
 refine ⟨r1,h2,a3.1.lt,fun w2 hg=>⟨r2.hb.grown hg (fun e=>n8 (by injection e)),r2.hg.grown hg (fun e=>n10 (by injection e)),r2.sz,r2.at_,r2.pl,r2.st⟩,?_⟩
 intro M' y w2 w3 hM hM2 hg hy hg2 hy2 hys hyp
 have st1:Stays T (fresh T w (38,σ.rd.length)) w w2 (fun c=>c=(26,j)∨c=(28,j)):=Stays.of_grown _ s.bx hg (.inl a1.2)
 have t2:fresh T w (38,σ.rd.length) s.bm=(28,j):=(fresh_old T w _ s.bm a3.1.lt).trans a3.2
 have st2:Stays (fresh T w (38,σ.rd.length)) (fresh (fresh T w (38,σ.rd.length)) w2 (39,σ.rd.length)) w2 w3 (fun c=>c=(26,j)∨c=(28,j)):=Stays.of_grown _ s.bm hg2 (.inr t2)
 have st:=st1.trans st2
 refine ⟨_,h.turnSo hM hM2 hs st ⟨hy.hb.grown hg2 (fun e=>n8 (by injection e with e;exact e.symm)),hy.hg.grown hg2 (fun e=>n12 (by injection e)),hy.sz,hy.at_,hy.pl,hy.st⟩ hy2 hys hyp,st.below h.bsz h.old (by simp),fun g h1 h3=>?_,fun g h1=>fresh_new _ _ _ _ h1⟩
 rw[fresh_old _ _ _ _ h3,fresh_new _ _ _ _ h1]
set_option maxRecDepth 100000 in
set_option maxHeartbeats 1600000 in
theorem made_10n {T:Tags} {base B M M':Nat} {σ:Sig} {w:World} (h:Inv T base B M σ w) (o:OpR) (hok:o.ok) (hk:o.kind=10) (ht:o.t.size≤M) (hM:M<M') (hM2:M'≤1073741824) (h1:σ.so.length=0):
  Calls Tryz.prog 33 #[.pointer (some ⟨B,0,none⟩),opV o] w fun e w'=>e = .returned (.bool true)∧Done base B M' w w':=by
 have z5:(o.kind==5)=false:=beq_eq_false_iff_ne.2 (by rw[hk];decide)
 have z10:(o.kind==10)=true:=beq_iff_eq.2 hk
 have hS:Std base B M σ w (w.alloc (.cells #[.int .i64 o.kind,.int .i64 o.a,.int .i64 o.b,.int .i64 o.c,.string o.s,.string o.t] 28)):=Std.alloc ⟨⟨T,h⟩,Below.refl _ _⟩ _
 have hlt:w.heap.size<(w.alloc (.cells #[.int .i64 o.kind,.int .i64 o.a,.int .i64 o.b,.int .i64 o.c,.string o.s,.string o.t] 28)).heap.size:=by simp
 have hbx:Blk (w.alloc (.cells #[.int .i64 o.kind,.int .i64 o.a,.int .i64 o.b,.int .i64 o.c,.string o.s,.string o.t] 28)) w.heap.size 28 o.cells:=Blk.new rfl rfl
 have HS:=hide hS
 have HX:=hide hbx
 clear hS h hk hbx
 unfold opV
 go_enter Tryz.func33,Tryz.ntmps33
 go_wp2_with fail
 obtain ⟨⟨T9,hI9⟩,hB9⟩:=HS.out
 refine (long_any hI9 o hok (by omega)).mono ?_
 rintro e w2 ⟨t,rfl,_,hb2⟩
 have e0:=(HX.out.below hb2 hlt).cell (i:=0) (v:=.int .i64 o.kind) rfl
 have HS2:=hide (HS.out.below hb2)
 obtain ⟨a1,k1,a2,k2,a3,k3,_,_,hv3⟩:=HS2.out.lens
 have c2:=HS2.out.field 2 (v:=.slice a3 0 k3) (by show some σ.vso=_;rw[hv3,h1])
 clear hI9 hB9 HS HX hb2 hv3
 generalize w.heap.size=sb at *
 go_wp2
 go_ret
 exact ⟨rfl,(HS2.out.more (Nat.le_of_lt hM) hM2).done⟩
set_option maxRecDepth 100000 in
set_option maxHeartbeats 3200000 in
theorem made_10s {T:Tags} {base B M M':Nat} {σ:Sig} {w:World} (h:Inv T base B M σ w) (o:OpR) (hok:o.ok) (hk:o.kind=10) (ht:o.t.size≤M) (hM:M<M') (hM2:M'≤1073741824) (h1:0<σ.so.length):
  Calls Tryz.prog 33 #[.pointer (some ⟨B,0,none⟩),opV o] w fun e w'=>e = .returned (.bool true)∧Done base B M' w w':=by
 have z5:(o.kind==5)=false:=beq_eq_false_iff_ne.2 (by rw[hk];decide)
 have z10:(o.kind==10)=true:=beq_iff_eq.2 hk
 have hS:Std base B M σ w (w.alloc (.cells #[.int .i64 o.kind,.int .i64 o.a,.int .i64 o.b,.int .i64 o.c,.string o.s,.string o.t] 28)):=Std.alloc ⟨⟨T,h⟩,Below.refl _ _⟩ _
 have hlt:w.heap.size<(w.alloc (.cells #[.int .i64 o.kind,.int .i64 o.a,.int .i64 o.b,.int .i64 o.c,.string o.s,.string o.t] 28)).heap.size:=by simp
 have hbx:Blk (w.alloc (.cells #[.int .i64 o.kind,.int .i64 o.a,.int .i64 o.b,.int .i64 o.c,.string o.s,.string o.t] 28)) w.heap.size 28 o.cells:=Blk.new rfl rfl
 have hbd:=h.bound
 have hoa:=hok.a
 have HTW:=hide h.two
 have hpk1:=pickN_lt o.a σ.so.length h1
 obtain ⟨p1,hp1⟩:∃ p,σ.so[pickN o.a σ.so.length]? = some p:=⟨_,List.getElem?_eq_getElem hpk1⟩
 obtain ⟨g1,cap1,hw1,hm1,hcell1⟩:=hS.two.2.2 _ p1 hp1
 have hpick1:=fun w=>pick_any o.a σ.so.length w hoa.1 hoa.2 h1 (by omega)
 have jn1:(0:Int)<(σ.so.length:Int):=by omega
 have kp1:(pickN o.a σ.so.length:Int)<(σ.so.length:Int):=by omega
 have zn1:((σ.so.length:Int)==0)=false:=beq_eq_false_iff_ne.2 (by omega)
 have HPK1:=hide hpick1
 have HC1:=hide hcell1
 have HP1:=hide hp1
 have HF0:=hide (show ∀ w2,Std base B M σ w w2→w2.cell? ⟨B,2,none⟩=some (.slice (some ⟨g1,0,none⟩) σ.so.length cap1) from fun w2 h2=>h2.field 2 (by show some σ.vso=_;rw[hw1]))
 have HD1:=hide (show ∀ w2,Std base B M σ w w2→p1.bx<w2.heap.size from fun w2 h2=>by
  obtain ⟨⟨T2,h3⟩,_⟩:=h2
  exact (h3.so _ p1 hp1).1.1.1.lt)
 have HKL:=hide (And.intro hM hM2)
 have HS:=hide hS
 have HX:=hide hbx
 clear hS h hk hbx hpick1 hcell1 hp1 hw1
 generalize hn1:σ.so.length=n1 at *
 have HLN:=hide hn1
 generalize hpk:pickN o.a n1=pk1 at *
 clear hn1 hpk
 unfold opV
 go_enter Tryz.func33,Tryz.ntmps33
 go_wp2_with fail
 obtain ⟨⟨T9,hI9⟩,hB9⟩:=HS.out
 refine (long_any hI9 o hok (by omega)).mono ?_
 rintro e w2 ⟨t,rfl,_,hb2⟩
 have hbx2:=HX.out.below hb2 hlt
 have e0:=hbx2.cell (i:=0) (v:=.int .i64 o.kind) rfl
 have e1:=hbx2.cell (i:=1) (v:=.int .i64 o.a) rfl
 have HS2:=hide (HS.out.below hb2)
 have c0:=HF0.out _ HS2.out
 clear hI9 hB9 HS HX hb2 hbx2
 generalize hsb:w.heap.size=sb at *
 go_wp2
 refine wp_letterW (fun w'=>Std base B M σ w w'∧w'.cell? ⟨sb,1,none⟩=some (.int .i64 o.a)) ⟨HS2.out,e1⟩ ?_
 clear c0 e1 HS2 e0
 rintro wq1 ⟨hS1,e1⟩
 have c0:=HF0.out _ hS1
 obtain ⟨d0,d1⟩:=HC1.out _ hS1
 replace hS1:=hide hS1
 go_region_held3 (fun w'=>w'.cell? ⟨B,2,none⟩=some (.slice (some ⟨g1,0,none⟩) n1 cap1)∧w'.cell? ⟨sb,1,none⟩=some (.int .i64 o.a)∧w'.cell? ⟨g1,pk1*2,none⟩=some (.pointer (some ⟨p1.bx,0,none⟩))∧w'.cell? ⟨g1,pk1*2+1,none⟩=some (.pointer (some ⟨p1.bm,0,none⟩))) (refine ⟨?_,?_,?_,?_⟩ <;> first | assumption | (exact World.cell?_alloc_later _ _ _ (by assumption))) ((go_at_call 48;refine (HPK1.out _).mono ?_;rintro e w' ⟨rfl,rfl⟩))
 all_goals
  have HSn:=hide ((hS1.out.alloc (.cells #[.pointer (some ⟨p1.bx,0,none⟩),.pointer (some ⟨p1.bm,0,none⟩)] 100)).drew)
  obtain ⟨⟨T9,hI9⟩,hB9⟩:=HSn.out
  obtain ⟨hR,hb2,hbm,hM1,hFin⟩:=hI9.news HP1.out
  have y1:((wq1.alloc (.cells #[.pointer (some ⟨p1.bx,0,none⟩),.pointer (some ⟨p1.bm,0,none⟩)] 100)).drew).cell? ⟨wq1.heap.size,1,none⟩=some (.pointer (some ⟨p1.bm,0,none⟩)):=World.cell?_alloc_at _ _ _ _ rfl
  have hl2:wq1.heap.size<(wq1.alloc (.cells #[.pointer (some ⟨p1.bx,0,none⟩),.pointer (some ⟨p1.bm,0,none⟩)] 100)).drew.heap.size:=cell_lt y1
  have hd1:=HD1.out wq1 hS1.out
  have HY:=hide (fun w2 (hb2:(wq1.alloc (.cells #[.pointer (some ⟨p1.bx,0,none⟩),.pointer (some ⟨p1.bm,0,none⟩)] 100)).drew.grownBy w2 (some p1.bx))=>(show w2.cell? ⟨wq1.heap.size,1,none⟩=_ from by simp only[World.cell?,hb2.block wq1.heap.size hl2 (fun e=>absurd (Option.some.inj e) (Nat.ne_of_gt hd1))];exact y1))
  have HPX:=hide (newReader_any t p1.bx p1.gx p1.src _ ⟨hI9.kt,hI9.ht,Nat.le_trans HTW.out hI9.bsz⟩ hR hb2)
  have HPM:=hide (fun w' hg=>refNewReader_any t p1.bm p1.gm p1.src w' (hM1 w' hg))
  have HSA:=hide hR.at_
  have HBM:=hide hbm
  have HFN:=hide hFin
  have HB9:=hide hB9
  generalize hWN:(wq1.alloc (.cells #[.pointer (some ⟨p1.bx,0,none⟩),.pointer (some ⟨p1.bm,0,none⟩)] 100)).drew=WN at *
  have y0:WN.cell? ⟨wq1.heap.size,0,none⟩=some (.pointer (some ⟨p1.bx,0,none⟩)):=by rw[←hWN];exact World.cell?_alloc_at _ _ _ _ rfl
  clear c0 d0 d1 e1 hS1 HF0 HC1 hl2 hI9 hB9 hR hb2 hbm hM1 hFin hd1 HD1 HSn y1 hWN
  go_wp2_with fail
  refine HPX.out.mono ?_
  rintro e w3 ⟨y,k,key,pv,hN,rfl,hk1,hk2,hS3,hG3⟩
  have y1:=HY.out w3 hG3
  have HM3:=hide (HPM.out w3 hG3)
  have HN:=hide hN
  have HK1:=hide hk1
  have HK2:=hide hk2
  have HG3:=hide (And.intro hG3 hS3)
  have hpv:∃ a,pv = .pointer a:=by
   by_cases hk0:k=0
   ·obtain ⟨ab,_,rfl,_⟩:=hk2 hk0;exact ⟨_,rfl⟩
   ·exact ⟨none,hk1 hk0⟩
  obtain ⟨pa,rfl⟩:=hpv
  clear HPX HPM HY hN hk1 hk2 hG3 hS3 y0
  go_wp2_with fail
  refine HM3.out.mono ?_
  rintro e w4 ⟨y',k',key',qv,hN',rfl,hq1,hq2,hS4,hG4⟩
  obtain ⟨rfl,rfl,rfl⟩:=HN.out.det hN'
  have hnf:=New.src hN' HSA.out
  obtain ⟨T4,hI4,hB4,hT38,hT39⟩:=HFN.out M y w3 w4 (Nat.le_refl _) (by have:=HKL.out;omega) HG3.out.1 HG3.out.2 hG4 hS4 hnf.1 hnf.2.1
  have HB4:=hide (HB9.out.trans hB4)
  by_cases hk0:k=0
  ·subst hk0
   obtain ⟨rb,hrb,hpa,hRR⟩:=HK2.out rfl
   injection hpa with hpa
   subst hpa
   obtain ⟨rm,hrm,rfl,come,fin,mk,mn,hBm,hmq⟩:=hq2 rfl
   obtain ⟨m1,m2,m3,m4⟩:=hmq rfl
   have hrl:rb<w3.heap.size:=hRR.hb.lt
   have hne:rb≠p1.bm:=by have:=HBM.out;omega
   have HX1:=hide (show At T4 w4 (38,σ.rd.length) rb 183 (RdR.xV ⟨rb,rm,pk1,p1.bx,p1.bm,key,0,[],[],0,come,fin,mk,mn⟩) from ⟨hRR.hb.grown hG4 (fun e=>hne (by injection e)),hT38 rb hrb hrl⟩)
   have HX2:=hide (show At T4 w4 (39,σ.rd.length) rm 185 (RdR.mV ⟨rb,rm,pk1,p1.bx,p1.bm,key,0,[],[],0,come,fin,mk,mn⟩) from ⟨hBm,hT39 rm hrm⟩)
   have HKK:=hide (show RdK M' ⟨rb,rm,pk1,p1.bx,p1.bm,key,0,[],[],0,come,fin,mk,mn⟩ from ⟨fun _=>⟨hnf.2.2.2.2 rfl,Nat.zero_le _,m1,m2,m3,m4⟩,Nat.zero_le _,Nat.zero_le _⟩)
   have HSO:=hide (show ∃ s,(σ.so.set pk1 (p1.turn y))[pk1]? = some s∧s.bx=p1.bx∧s.bm=p1.bm from ⟨_,List.getElem?_set_self (List.getElem?_eq_some_iff.1 HP1.out).1,rfl,rfl⟩)
   have c5:=hI4.hw.1.cell (i:=4) rfl
   have hlen:=hI4.nrd
   have hMb:=hI4.bound.1
   have key0:=fun (w1:World) (o:Obj) (hg:(w4.alloc o).grownBy w1 σ.vrd.ownBlock)=>(hI4.hw.1.alloc o).grown hg (fun e=>absurd (hI4.rrd.2 B e.symm) (by rw[hI4.hw.2];decide))
   have HK:=hide key0
   have HROW:=hide hI4.rrd.1
   have HI4:=hide hI4
   simp only at c5 hlen HROW
   clear key0 hI4 hG4 hS4 hq1 hq2 hRR hBm m1 m2 m3 m4 hmq HN hN' HK1 HK2 hT38 hT39 hB4 hnf HM3 HG3 HFN hrb hrm hrl hne
   go_wp2_with (at_builtin;refine wpList_append_two 109 35 _ 16 infoRe Tryz.underlying35 rfl (by decide) rfl (.tmp 71) (.tmp 75) rfl _ σ.rd.length _ rfl (HROW.out.alloc _) _ (.pointer (some ⟨rb,0,none⟩)) (.pointer (some ⟨rm,0,none⟩)) rfl rfl rfl (World.cell?_alloc_at _ _ _ _ rfl) (World.cell?_alloc_at _ _ _ _ rfl) ?_ ?_;omega;intro v1 w5 hr1 hg1 hat1;obtain ⟨g9,cap9,cur9,rfl,_⟩:=hr1.open (Nat.succ_pos _);have hbw:=HK.out w5 _ hg1;have d0:=hbw.cell (i:=4) rfl;have f5:=hbw.frozen)
   go_ret
   obtain ⟨T',i1,i2⟩:=HI4.out.addRd HKL.out.1 HKL.out.2 ⟨rb,rm,pk1,p1.bx,p1.bm,key,0,[],[],0,come,fin,mk,mn⟩ HX1.out HX2.out HKK.out HSO.out _ _ hg1 hr1 hat1
   exact ⟨rfl,T',_,i1,HB4.out.trans i2⟩
  ·have z1:(k==0)=false:=beq_eq_false_iff_ne.2 hk0
   have hpa:=HK1.out hk0
   injection hpa with hpa
   subst hpa
   obtain rfl:=hq1 hk0
   have HF:=hide (show Done base B M' w w4 from ⟨_,_,hI4.more (Nat.le_of_lt HKL.out.1) HKL.out.2,HB4.out⟩)
   clear hI4 hG4 hS4 hq2 HN hN' HK1 HK2 hT38 hT39 hB4 hnf HM3 HG3 HFN HB4 hk0
   go_wp2
   go_ret
   exact ⟨by simp,HF.out⟩
theorem made_10 {T:Tags} {base B M M':Nat} {σ:Sig} {w:World} (h:Inv T base B M σ w) (o:OpR) (hok:o.ok) (hk:o.kind=10) (ht:o.t.size≤M) (hM:M<M') (hM2:M'≤1073741824):
  Calls Tryz.prog 33 #[.pointer (some ⟨B,0,none⟩),opV o] w fun e w'=>e = .returned (.bool true)∧Done base B M' w w':=by
 rcases Nat.eq_zero_or_pos σ.so.length with h1 | h1
 ·exact made_10n h o hok hk ht hM hM2 h1
 ·exact made_10s h o hok hk ht hM hM2 h1
set_option maxRecDepth 100000 in
set_option maxHeartbeats 1600000 in
theorem whole_16 {T:Tags} {base B M M':Nat} {σ:Sig} {w:World} (h:Inv T base B M σ w) (o:OpR) (hok:o.ok) (hk:o.kind=16) (ht:o.t.size≤M) (hM:M<M') (hM2:M'≤1073741824):
  Calls Tryz.prog 35 #[.pointer (some ⟨B,0,none⟩),opV o] w fun e w'=>e = .returned (.bool true)∧Done base B M' w w':=by
 have z16:(o.kind==16)=true:=beq_iff_eq.2 hk
 have hS:Std base B M σ w (w.alloc (.cells #[.int .i64 o.kind,.int .i64 o.a,.int .i64 o.b,.int .i64 o.c,.string o.s,.string o.t] 28)):=Std.alloc ⟨⟨T,h⟩,Below.refl _ _⟩ _
 have hfz:σ.file.size≤1099511627776:=by have h1:=h.sizes.2.2.2.1;have h2:=h.bound.1;omega
 have HTW:=hide h.two
 have HS:=hide hS
 have HKL:=hide (And.intro hM hM2)
 clear hS h hk
 unfold opV
 go_enter Tryz.func35,Tryz.ntmps35
 go_wp2_with fail
 obtain ⟨⟨T9,hI9⟩,hB9⟩:=HS.out
 refine (long_any hI9 o hok (by omega)).mono ?_
 rintro e w2 ⟨t,rfl,_,hb2⟩
 have hI2:=hI9.below hb2
 have HS2:=hide (HS.out.below hb2)
 have c11:=hI2.hw.1.cell (i:=11) rfl
 have HPX:=hide (decrypt_any t σ.file w2 ⟨hI2.kt,hI2.ht,Nat.le_trans HTW.out hI2.bsz⟩ hfz)
 have HPM:=hide (fun w'=>refDec_any t σ.file w' hfz)
 have HFC:=hide (show ∀ w3,Std base B M σ w w3→w3.cell? ⟨B,11,none⟩=some (.string σ.file) from fun w3 h3=>h3.field 11 rfl)
 clear hI9 hB9 HS hb2 hI2
 go_wp2_with fail
 refine HPX.out.mono ?_
 rintro e w3 ⟨a,hA,rfl,hb3⟩
 have HS3:=hide (HS2.out.below hb3)
 have c113:=HFC.out w3 HS3.out
 have HA:=hide hA
 unfold ansV
 clear HPX hb3 hA c11 HS2 HFC
 go_wp2_with fail
 refine (HPM.out _).mono ?_
 rintro e w4 ⟨j,b,hj,hD,rfl,hb4⟩
 have hab:=decP_ref HA.out hD hj
 have HDN:=hide ((HS3.out.below hb4).more (Nat.le_of_lt HKL.out.1) HKL.out.2).done
 unfold ansV
 obtain ⟨bt,be⟩:=b
 clear HPM hb4 hj hD HA HS3 c113
 by_cases hbe:be=0
 ·subst hbe
  rw[if_neg (fun q=>q rfl)] at hab
  subst hab
  generalize (⟨bt.toArray⟩:ByteArray)=bb at *
  go_wp2
  go_ret
  exact ⟨by simp,HDN.out⟩
 ·have z1:(be != 0)=true:=by rw[bne_iff_ne];exact hbe
  rw[if_pos hbe] at hab
  subst hab
  generalize (⟨bt.toArray⟩:ByteArray)=bb at *
  clear hbe
  go_wp2
  go_ret
  exact ⟨by simp,HDN.out⟩
theorem used_11 {T:Tags} {base B M M':Nat} {σ:Sig} {w:World} (h:Inv T base B M σ w) (o:OpR) (hok:o.ok) (hk:o.kind=11) (hM:M<M') (hM2:M'≤1073741824):
  Calls Tryz.prog 34 #[.pointer (some ⟨B,0,none⟩),opV o] w fun e w'=>e = .returned (.bool true)∧Done base B M' w w':=by
 rcases Nat.eq_zero_or_pos σ.rd.length with h1 | h1
 ·exact used_11n h o hk hM hM2 h1
 ·exact used_11s h o hok hk hM hM2 h1
set_option maxRecDepth 100000 in
set_option maxHeartbeats 800000 in
theorem drive_10 {base B:Nat} (o:OpR) (hok:o.ok) (hk:o.kind=10):Step 12 base B o:=by
 intro T M M' σ w h hM hM2
 have z1:(o.kind==1)=false:=beq_eq_false_iff_ne.2 (by rw[hk];decide)
 have z2:(o.kind==2)=false:=beq_eq_false_iff_ne.2 (by rw[hk];decide)
 have z3:(o.kind==3)=false:=beq_eq_false_iff_ne.2 (by rw[hk];decide)
 have z8:(o.kind==8)=false:=beq_eq_false_iff_ne.2 (by rw[hk];decide)
 have z9:(o.kind==9)=false:=beq_eq_false_iff_ne.2 (by rw[hk];decide)
 have z5:(o.kind==5)=false:=beq_eq_false_iff_ne.2 (by rw[hk];decide)
 have z10:(o.kind==10)=true:=beq_iff_eq.2 hk
 have hn:o.kind ∉ [17,4,24,25,18,19,20,21,22,23]:=by rw[hk];decide
 have hlt:w.heap.size<(w.alloc (.cells #[.int .i64 o.kind,.int .i64 o.a,.int .i64 o.b,.int .i64 o.c,.string o.s,.string o.t] 28)).heap.size:=by simp
 have hbx:Blk (w.alloc (.cells #[.int .i64 o.kind,.int .i64 o.a,.int .i64 o.b,.int .i64 o.c,.string o.s,.string o.t] 28)) w.heap.size 28 o.cells:=Blk.new rfl rfl
 have hS:Std base B (M+o.s.size+o.t.size) σ w (w.alloc (.cells #[.int .i64 o.kind,.int .i64 o.a,.int .i64 o.b,.int .i64 o.c,.string o.s,.string o.t] 28)):=(Std.alloc ⟨⟨T,h⟩,Below.refl _ _⟩ _).more (by omega) (by omega)
 have HS:=hide hS
 have HK:=hide hk
 have HN:=hide hn
 have HX:=hide hbx
 clear hS h hk hn hbx
 unfold opV
 go_enter Tryz.func12,Tryz.ntmps12
 go_wp2_with fail
 obtain ⟨⟨T9,hI9⟩,hB9⟩:=HS.out
 refine (owner_other hI9 o hok HN.out (by omega)).mono ?_
 rintro e w2 ⟨rfl,⟨T2,hI2⟩,hb2⟩
 have hx2:=HX.out.below hb2 hlt
 have e0:=hx2.cell (i:=0) (v:=.int .i64 o.kind) rfl
 have e1:=hx2.cell (i:=1) (v:=.int .i64 o.a) rfl
 have e2:=hx2.cell (i:=2) (v:=.int .i64 o.b) rfl
 have e3:=hx2.cell (i:=3) (v:=.int .i64 o.c) rfl
 have e4:=hx2.cell (i:=4) (v:=.string o.s) rfl
 have e5:=hx2.cell (i:=5) (v:=.string o.t) rfl
 have HI2:=hide hI2
 have HB2:=hide (hB9.trans (hb2.mono hI9.bsz))
 clear hI2 hb2 hI9 hB9 HS HX hx2
 generalize w.heap.size=sb at *
 go_wp2_with fail
 refine (made_10 HI2.out o hok HK.out (by omega) hM hM2).mono ?_
 rintro e w5 ⟨rfl,hd⟩
 have HD:=hide (Done.from HB2.out hd)
 clear hd HI2 HB2 e0 e1 e2 e3 e4 e5
 go_wp2
 go_ret
 exact ⟨rfl,HD.out⟩
set_option maxRecDepth 100000 in
set_option maxHeartbeats 800000 in
theorem drive_11 {base B:Nat} (o:OpR) (hok:o.ok) (hk:o.kind=11):Step 12 base B o:=by
 intro T M M' σ w h hM hM2
 have z1:(o.kind==1)=false:=beq_eq_false_iff_ne.2 (by rw[hk];decide)
 have z2:(o.kind==2)=false:=beq_eq_false_iff_ne.2 (by rw[hk];decide)
 have z3:(o.kind==3)=false:=beq_eq_false_iff_ne.2 (by rw[hk];decide)
 have z8:(o.kind==8)=false:=beq_eq_false_iff_ne.2 (by rw[hk];decide)
 have z9:(o.kind==9)=false:=beq_eq_false_iff_ne.2 (by rw[hk];decide)
 have z5:(o.kind==5)=false:=beq_eq_false_iff_ne.2 (by rw[hk];decide)
 have z10:(o.kind==10)=false:=beq_eq_false_iff_ne.2 (by rw[hk];decide)
 have z12:(o.kind==12)=false:=beq_eq_false_iff_ne.2 (by rw[hk];decide)
 have z6:(o.kind==6)=false:=beq_eq_false_iff_ne.2 (by rw[hk];decide)
 have z7:(o.kind==7)=false:=beq_eq_false_iff_ne.2 (by rw[hk];decide)
 have z11:(o.kind==11)=true:=beq_iff_eq.2 hk
 have hn:o.kind ∉ [17,4,24,25,18,19,20,21,22,23]:=by rw[hk];decide
 have hlt:w.heap.size<(w.alloc (.cells #[.int .i64 o.kind,.int .i64 o.a,.int .i64 o.b,.int .i64 o.c,.string o.s,.string o.t] 28)).heap.size:=by simp
 have hbx:Blk (w.alloc (.cells #[.int .i64 o.kind,.int .i64 o.a,.int .i64 o.b,.int .i64 o.c,.string o.s,.string o.t] 28)) w.heap.size 28 o.cells:=Blk.new rfl rfl
 have hS:Std base B (M+o.s.size+o.t.size) σ w (w.alloc (.cells #[.int .i64 o.kind,.int .i64 o.a,.int .i64 o.b,.int .i64 o.c,.string o.s,.string o.t] 28)):=(Std.alloc ⟨⟨T,h⟩,Below.refl _ _⟩ _).more (by omega) (by omega)
 have HS:=hide hS
 have HK:=hide hk
 have HN:=hide hn
 have HX:=hide hbx
 clear hS h hk hn hbx
 unfold opV
 go_enter Tryz.func12,Tryz.ntmps12
 go_wp2_with fail
 obtain ⟨⟨T9,hI9⟩,hB9⟩:=HS.out
 refine (owner_other hI9 o hok HN.out (by omega)).mono ?_
 rintro e w2 ⟨rfl,⟨T2,hI2⟩,hb2⟩
 have hx2:=HX.out.below hb2 hlt
 have e0:=hx2.cell (i:=0) (v:=.int .i64 o.kind) rfl
 have e1:=hx2.cell (i:=1) (v:=.int .i64 o.a) rfl
 have e2:=hx2.cell (i:=2) (v:=.int .i64 o.b) rfl
 have e3:=hx2.cell (i:=3) (v:=.int .i64 o.c) rfl
 have e4:=hx2.cell (i:=4) (v:=.string o.s) rfl
 have e5:=hx2.cell (i:=5) (v:=.string o.t) rfl
 have HI2:=hide hI2
 have HB2:=hide (hB9.trans (hb2.mono hI9.bsz))
 clear hI2 hb2 hI9 hB9 HS HX hx2
 generalize w.heap.size=sb at *
 go_wp2_with fail
 refine (used_11 HI2.out o hok HK.out hM hM2).mono ?_
 rintro e w5 ⟨rfl,hd⟩
 have HD:=hide (Done.from HB2.out hd)
 clear hd HI2 HB2 e0 e1 e2 e3 e4 e5
 go_wp2
 go_ret
 exact ⟨rfl,HD.out⟩
set_option maxRecDepth 100000 in
set_option maxHeartbeats 800000 in
theorem drive_16 {base B:Nat} (o:OpR) (hok:o.ok) (hk:o.kind=16):Step 12 base B o:=by
 intro T M M' σ w h hM hM2
 have z1:(o.kind==1)=false:=beq_eq_false_iff_ne.2 (by rw[hk];decide)
 have z2:(o.kind==2)=false:=beq_eq_false_iff_ne.2 (by rw[hk];decide)
 have z3:(o.kind==3)=false:=beq_eq_false_iff_ne.2 (by rw[hk];decide)
 have z8:(o.kind==8)=false:=beq_eq_false_iff_ne.2 (by rw[hk];decide)
 have z9:(o.kind==9)=false:=beq_eq_false_iff_ne.2 (by rw[hk];decide)
 have z5:(o.kind==5)=false:=beq_eq_false_iff_ne.2 (by rw[hk];decide)
 have z10:(o.kind==10)=false:=beq_eq_false_iff_ne.2 (by rw[hk];decide)
 have z12:(o.kind==12)=false:=beq_eq_false_iff_ne.2 (by rw[hk];decide)
 have z6:(o.kind==6)=false:=beq_eq_false_iff_ne.2 (by rw[hk];decide)
 have z7:(o.kind==7)=false:=beq_eq_false_iff_ne.2 (by rw[hk];decide)
 have z11:(o.kind==11)=false:=beq_eq_false_iff_ne.2 (by rw[hk];decide)
 have z13:(o.kind==13)=false:=beq_eq_false_iff_ne.2 (by rw[hk];decide)
 have z14:(o.kind==14)=false:=beq_eq_false_iff_ne.2 (by rw[hk];decide)
 have z15:(o.kind==15)=false:=beq_eq_false_iff_ne.2 (by rw[hk];decide)
 have z16:(o.kind==16)=true:=beq_iff_eq.2 hk
 have hn:o.kind ∉ [17,4,24,25,18,19,20,21,22,23]:=by rw[hk];decide
 have hlt:w.heap.size<(w.alloc (.cells #[.int .i64 o.kind,.int .i64 o.a,.int .i64 o.b,.int .i64 o.c,.string o.s,.string o.t] 28)).heap.size:=by simp
 have hbx:Blk (w.alloc (.cells #[.int .i64 o.kind,.int .i64 o.a,.int .i64 o.b,.int .i64 o.c,.string o.s,.string o.t] 28)) w.heap.size 28 o.cells:=Blk.new rfl rfl
 have hS:Std base B (M+o.s.size+o.t.size) σ w (w.alloc (.cells #[.int .i64 o.kind,.int .i64 o.a,.int .i64 o.b,.int .i64 o.c,.string o.s,.string o.t] 28)):=(Std.alloc ⟨⟨T,h⟩,Below.refl _ _⟩ _).more (by omega) (by omega)
 have HS:=hide hS
 have HK:=hide hk
 have HN:=hide hn
 have HX:=hide hbx
 clear hS h hk hn hbx
 unfold opV
 go_enter Tryz.func12,Tryz.ntmps12
 go_wp2_with fail
 obtain ⟨⟨T9,hI9⟩,hB9⟩:=HS.out
 refine (owner_other hI9 o hok HN.out (by omega)).mono ?_
 rintro e w2 ⟨rfl,⟨T2,hI2⟩,hb2⟩
 have hx2:=HX.out.below hb2 hlt
 have e0:=hx2.cell (i:=0) (v:=.int .i64 o.kind) rfl
 have e1:=hx2.cell (i:=1) (v:=.int .i64 o.a) rfl
 have e2:=hx2.cell (i:=2) (v:=.int .i64 o.b) rfl
 have e3:=hx2.cell (i:=3) (v:=.int .i64 o.c) rfl
 have e4:=hx2.cell (i:=4) (v:=.string o.s) rfl
 have e5:=hx2.cell (i:=5) (v:=.string o.t) rfl
 have HI2:=hide hI2
 have HB2:=hide (hB9.trans (hb2.mono hI9.bsz))
 clear hI2 hb2 hI9 hB9 HS HX hx2
 generalize w.heap.size=sb at *
 go_wp2_with fail
 refine (whole_16 HI2.out o hok HK.out (by omega) hM hM2).mono ?_
 rintro e w5 ⟨rfl,hd⟩
 have HD:=hide (Done.from HB2.out hd)
 clear hd HI2 HB2 e0 e1 e2 e3 e4 e5
 go_wp2
 go_ret
 exact ⟨rfl,HD.out⟩
end Go.Proofs.YtmjekklgefdolaaGreatDoor
namespace Go.Proofs.YtmjekklgefdolaaGreatDoor
open Go.ChangeShapes Go.WideShapes Go.ChangeAt Go.RowKit Go.Deep
def readsKinds:List Int:=[10,11,16]
set_option maxRecDepth 100000 in
set_option maxHeartbeats 800000 in
theorem reads_any (v:Value) (l:List OpR) (w:World) (hv:Script w v l) (hk:KTab w) (hh:HTab w) (h2:2≤w.heap.size) (hok:∀ p ∈ l,p.ok) (hl:l.length≤1152921504606846976):
  Calls Tryz.prog 4 #[v] w fun e w'=>e = .returned (.bool true)∧Below w.heap.size w w':=by
 have hb:Below w.heap.size w (w.alloc (.cells (intV readsKinds).toArray 3)):=(Below.refl _ _).alloc (Nat.le_refl _) _
 have HPL:=hide (plays_any v l readsKinds w.heap.size (w.alloc (.cells (intV readsKinds).toArray 3)) (hv.alloc _) (Kinds.new _ _) (by decide) (hk.below hb h2) (hh.below hb h2) (Nat.le_trans h2 hb.size) hok hl
  (fun b o ho hkp h50=>by
   have h:=kept_call hkp (by omega)
   simp[readsKinds] at h
   omega)
  (fun b o ho hkp h30 h50=>by
   have h:=kept_call hkp h30
   simp[readsKinds] at h
   omega)
  (fun b o ho hkp h30=>by
   rcases Bool.or_eq_true_iff.1 hkp with h0 | h0
   ·exact own_steps [] (by simp) b o ho (Bool.or_eq_true_iff.2 (.inl h0)) h30
   ·have h:o.kind ∈ readsKinds:=by simpa using h0
    simp[readsKinds] at h
    rcases h with h | h | h
    ·exact drive_10 o ho h
    ·exact drive_11 o ho h
    ·exact drive_16 o ho h))
 have HB:=hide hb
 clear hv hk hh h2 hok hl hb
 go_enter Tryz.func4,Tryz.ntmps4
 go_wp2_with fail
 refine HPL.out.mono ?_
 rintro e w' ⟨rfl,hb'⟩
 have HF:=hide (HB.out.trans (hb'.mono HB.out.size))
 clear hb'
 go_wp2
 go_ret
 exact ⟨rfl,HF.out⟩
set_option maxRecDepth 100000 in
theorem reads_contract (H:Type) (enc:TypeId × Value→H) (W:World) (base:Nat) (args:Array Value) (ds gs:List (DataW H)) (before:List MemPlace)
  (hval:∀ (j:Nat) t v,Tryz.f4.params[j]? = some t→args[j]? = some v→Value.okWide Tryz.prog W .any base t v)
  (hW:DataW.Whole enc Tryz.prog Tryz.f4.params.toList Rows.readsSpec.vars false W args.toList ds gs before)
  (hz:∀ n ∈ DataW.weightsEach Tryz.prog Tryz.f4.params.toList (ds++gs),n≤reachBytes) (hL:laidMetH Tryz.prog Rows.readsRow.laid W):
  Calls Tryz.prog 4 args W fun e W'=>∃ v,e = .returned v∧Rows.readsSpec.post enc Tryz.prog Tryz.f4 false true false false W args v W':=by
 have hW':=hW
 obtain ⟨p,q,hA0,hV,rfl,hfz,hnd⟩:=hW
 have hA:DataW.TrodAll enc Tryz.prog W 0 (fun _=>true) true Tryz.f4.params.toList args.toList ds p:=hA0
 rw[Tryz.params4] at hA hval hz
 obtain ⟨v0,d0,rfl,rfl,h0⟩:=trodAll_one hA
 obtain ⟨rfl,rfl⟩:=trodVars_none hV
 obtain ⟨a0,len,cap,rfl⟩:=okWide_slice Tryz.underlying22 (hval 0 22 v0 rfl rfl)
 clear hA0 hfz hnd
 simp only[List.append_nil] at hW'
 have hlt:∀ x ∈ p,x.block<W.heap.size:=fun x hx=>by simpa using hW'.lt x hx
 obtain ⟨l,hS,hok,hl⟩:=open_script h0 (fun n hn=>hz n (DataW.weights_mem_each (j:=0) rfl rfl n hn))
 obtain ⟨hh,hk⟩:=tabs2 hL
 have h2:2≤W.heap.size:=World.block_lt_of_cell? W _ (hk 0 (by decide))
 refine (reads_any _ l W hS hk hh h2 hok hl).mono fun e W' ⟨he,hb⟩=>?_
 subst he
 refine ⟨_,rfl,_,_,_,[],p,[],hW',?_,trodAll_mk1 (Below.trod laidOut (by kernel_rfl) (of_decide_eq_true (by kernel_rfl)) h0 hb hlt),rfl,hb.frame _,fun h=>by cases h⟩
 exact trodAll_mk1 (shut_bool Tryz.underlying4 _)
theorem reads_laid_met (os:Os):laidMet Tryz.prog Rows.readsRow.laid ((laidWorld Tryz.prog os).forCall (fun _ _=>0) ⟨#[],#[.slice none 0 0],[]⟩).memory:=
 laidMet_of_run' 8 (by kernel_rfl) (by kernel_rfl)
theorem reads_reads (os:Os) {H:Type} (enc:TypeId × Value→H):∃ places,DataW.whole enc Tryz.prog ((laidWorld Tryz.prog os).forCall (fun _ _=>0) ⟨#[],#[.slice none 0 0],[]⟩).memory Tryz.f4.params.toList Rows.readsSpec.vars false #[Value.slice none 0 0].toList 8=some ([.nil],[],places):=
 ⟨[],by kernel_rfl⟩
set_option maxRecDepth 100000 in
theorem reads_lifted (os:Os) (started:os.Started) (H:Type) (enc:TypeId × Value→H) (F:Stop.Interp):
  ReturnsInHanded {} Tryz.checked os 4 .any ((OpenSpec.ofChange Rows.readsSpec).preRow enc Tryz.prog Tryz.f4 Rows.readsRow.domain false Rows.readsRow.laid) (((OpenSpec.ofChange Rows.readsSpec).at F).post enc Tryz.prog Tryz.f4 false true false false):=by
 obtain ⟨places,hx⟩:=reads_reads os enc
 refine returnsInHanded_of_row (C:=Tryz.checked) (s:=OpenSpec.ofChange Rows.readsSpec) own started (by kernel_rfl) Tryz.func4
  (witness_row_at (enc:=enc) (C:=Tryz.checked) false (laidWorld Tryz.prog os) #[.slice none 0 0] rfl (by kernel_rfl) (by kernel_rfl) (by kernel_rfl)
   (OpenSpec.preRow_of_cond 8 hx (by kernel_rfl) (fun k hk=>by cases hk) (by kernel_rfl) (reads_laid_met os))) ?_
 intro W base args ds gs before hval hW _ _ hz hL _ _
 have hz':∀ n ∈ DataW.weightsEach Tryz.prog Tryz.f4.params.toList (ds++gs),n≤reachBytes:=by
  have hz2:(DataW.weightsEach Tryz.prog Tryz.f4.params.toList (ds++gs)).all (·≤reachBytes)=true:=hz
  intro n hn
  simpa using List.all_eq_true.1 hz2 n hn
 exact reads_contract H enc W base args ds gs before hval hW hz' hL
theorem reads_j1:Tryz.prog.inPlace 4=Rows.readsRow.inPlace:=by kernel_rfl
theorem reads_j2:Tryz.prog.unfollowed 4=Rows.readsRow.unfollowed:=by kernel_rfl
theorem reads_j3:Tryz.prog.recurses 4=Rows.readsRow.recurses:=by kernel_rfl
theorem reads_j4:Tryz.prog.varsNamed 4=Rows.readsRow.named:=by kernel_rfl
theorem reads_j:joinedFacts Tryz.prog 4 Tryz.f4 (OpenSpec.ofChange Rows.readsSpec).bare Rows.readsRow=true:=by
 unfold joinedFacts
 rw[reads_j1,reads_j2,reads_j3,reads_j4]
 kernel_rfl
theorem reads_said:Rows.ReadsSaid:=
 OpenClaim.holds_of_cond 4 Tryz.f4 rfl rfl rfl rfl rfl rfl rfl ⟨rfl,rfl,rfl,rfl,rfl⟩ rfl rfl rfl rfl rfl (by kernel_rfl) Tryz.func4 reads_j
  (of_decide_eq_true (by kernel_rfl)) (by unfold Func.isWrapper;first | (rw[if_pos (by decide +kernel)];kernel_rfl) | (rw[if_neg (by decide +kernel)];exact ⟨rfl,rfl⟩))
  (fun os started H enc _ F=>by rw[OpenClaim.pre_eq_preRow];exact reads_lifted os started H enc F)
theorem reads_plain (f : FuncId) (fn : Func) (hf : Tryz.pinned.checked.prog.funcNamed "strongbox/strongboxlaw.Reads" = some f) (hfn : Tryz.pinned.checked.prog.funcs[f]? = some fn) :
  false = Tryz.pinned.checked.prog.looks []∧∀ (j:Nat) t,fn.params[j]? = some t→Tryz.pinned.checked.prog.wantsStandIn t=false:=by
 obtain rfl : f = 4 := Option.some.inj ((show Tryz.prog.funcNamed "strongbox/strongboxlaw.Reads" = some 4 by kernel_rfl).symm.trans hf) |>.symm
 obtain rfl:fn = Tryz.f4:=(Option.some.inj (Tryz.func4.symm.trans hfn)).symm
 refine ⟨by kernel_rfl,fun j t ht=>?_⟩
 rw[Tryz.params4] at ht
 obtain rfl:t=22:=by simpa using Array.mem_of_getElem? ht
 exact (show Tryz.prog.wantsStandIn 22=false by kernel_rfl)
theorem reads_card:Rows.ReadsCardSaid:=
 Claim7.holds_tied_plain_at .later [] _ _ _ _ reads_said (fun _ h=>by cases h) (by kernel_rfl) (fun _ h=>by cases h) reads_row_tie rfl ⟨rfl,rfl⟩ (by kernel_rfl) rfl reads_plain (by kernel_rfl)
end Go.Proofs.YtmjekklgefdolaaGreatDoor
