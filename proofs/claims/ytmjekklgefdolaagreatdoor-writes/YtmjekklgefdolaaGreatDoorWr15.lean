import Derived.Test.YtmjekklgefdolaaGreatDoorWr14
namespace Go.Proofs.YtmjekklgefdolaaGreatDoor
open Go.RowKit
theorem Inv.newsE {T:Tags} {base B M:Nat} {σ:Sig} {w:World} (h:Inv T base B M σ w) {j:Nat} {s:SpringR} (hs:σ.sp[j]? = some s):
  Blk w s.bx 171 (springCells s.text s.pos.toNat)∧2≤s.bx∧s.pos.toNat≤s.text.size∧s.text.size≤M ∧
  (∀ w2,w.grownBy w2 (some s.bx)→Blk w2 s.bm 171 (springCells s.text s.pos.toNat)) ∧
  (∀ (q:Nat) w2 w3,w.grownBy w2 (some s.bx)→Blk w2 s.bx 171 (springCells s.text q)→w2.grownBy w3 (some s.bm)→Blk w3 s.bm 171 (springCells s.text q)→q≤s.text.size →
   ∃ T',Inv T' base B M { σ with sp:=σ.sp.set j (s.turn q) } w3∧Below base w w3):=by
 obtain ⟨a1,a2⟩:=h.sp j s hs
 have KP:=h.spK j s hs
 have ne:∀ {x y:Nat} {c d:Nat × Nat},T x=c→T y=d→c≠d→x≠y:=fun h1 h2 hcd e=>hcd (by rw[←h1,←h2,e])
 rw[KP.cells] at a1 a2
 have h2:2≤s.bx:=by
  rcases Nat.lt_or_ge s.bx base with q | q
  ·have:=(h.old _ q).symm.trans a1.2
   simp at this
  ·exact Nat.le_trans h.two q
 have k1:=KP.lo
 have k2:=KP.hi
 have n1:s.bm≠s.bx:=ne a2.2 a1.2 (by simp)
 refine ⟨a1.1,h2,by omega,KP.sz,fun w2 hg=>a2.1.grown hg (fun e=>n1 (by injection e)),?_⟩
 intro q w2 w3 hg hx hg2 hm hq
 have st1:Stays T (fresh T w (9,9)) w w2 (fun c=>c=(20,j)∨c=(21,j)):=Stays.of_grown _ s.bx hg (.inl a1.2)
 have t2:fresh T w (9,9) s.bm=(21,j):=(fresh_old T w _ s.bm a2.1.lt).trans a2.2
 have st2:Stays (fresh T w (9,9)) (fresh (fresh T w (9,9)) w2 (9,9)) w2 w3 (fun c=>c=(20,j)∨c=(21,j)):=Stays.of_grown _ s.bm hg2 (.inr t2)
 have st:=st1.trans st2
 exact ⟨_,h.turnSp (Nat.le_refl _) h.bound.1 hs st (hx.grown hg2 (fun e=>n1 (by injection e with e;exact e.symm))) hm hq,st.below h.bsz h.old (by simp)⟩
theorem file_size (l:List ByteArray) (s:ByteArray) (p:Nat) (text:ByteArray):(if Ref.beginE l s p=0 then (⟨(Ref.file l s p text.data.toList).toArray⟩:ByteArray) else ⟨#[]⟩).size≤2*text.size+400:=by
 split
 ·rename_i hE
  obtain ⟨z1,z2⟩:=Ref.head_size2 hE
  have z3:=Ref.encB_len (Ref.pkey l s p).data.toList text.data.toList (Ref.full text.size)
  have z4:=Ref.box_size (Ref.pkey l s p).data.toList (Ref.full text.size) true (text.data.toList.drop (16*Ref.full text.size))
  have hl:text.data.toList.length=text.size:=ba_len text
  have z5:(text.data.toList.drop (16*Ref.full text.size)).length=text.size-16*Ref.full text.size:=by rw[List.length_drop,hl]
  have z6:Ref.full text.size=(text.size-1)/16:=rfl
  rw[two_size]
  unfold Ref.file Ref.encF
  rw[hl]
  simp only[List.length_append,ba_len]
  omega
 ·show 0≤_
  omega
set_option maxRecDepth 100000 in
set_option maxHeartbeats 800000 in
theorem whole_15n {T:Tags} {base B M M':Nat} {σ:Sig} {w:World} (h:Inv T base B M σ w) (o:OpR) (hk:o.kind=15) (hM:M<M') (hM2:M'≤1073741824) (h1:σ.sp.length=0):
  Calls Tryz.prog 35 #[.pointer (some ⟨B,0,none⟩),opV o] w fun e w'=>e = .returned (.bool true)∧Done base B M' w w':=by
 have z16:(o.kind==16)=false:=beq_eq_false_iff_ne.2 (by rw[hk];decide)
 have hS:Std base B M σ w (w.alloc (.cells #[.int .i64 o.kind,.int .i64 o.a,.int .i64 o.b,.int .i64 o.c,.string o.s,.string o.t] 28)):=Std.alloc ⟨⟨T,h⟩,Below.refl _ _⟩ _
 obtain ⟨ao1,cp1,_,_,_,_,hv1,_,_⟩:=hS.lens
 have c0:=hS.field 0 (v:=.slice ao1 0 cp1) (by show some σ.vsp=_;rw[hv1,h1])
 have HS:=hide (hS.more (Nat.le_of_lt hM) hM2)
 clear hS h hv1 h1 hk
 unfold opV
 go_enter Tryz.func35,Tryz.ntmps35
 go_wp2
 go_ret
 exact ⟨rfl,HS.out.done⟩
set_option maxRecDepth 100000 in
set_option maxHeartbeats 6400000 in
theorem whole_15s {T:Tags} {base B M M':Nat} {σ:Sig} {w:World} (h:Inv T base B M σ w) (o:OpR) (hok:o.ok) (hk:o.kind=15) (hsz:o.s.size≤M) (hM:M<M') (hM2:M'≤1073741824) (h1:0<σ.sp.length):
  Calls Tryz.prog 35 #[.pointer (some ⟨B,0,none⟩),opV o] w fun e w'=>e = .returned (.bool true)∧Done base B M' w w':=by
 have z16:(o.kind==16)=false:=beq_eq_false_iff_ne.2 (by rw[hk];decide)
 have hS:Std base B M σ w (w.alloc (.cells #[.int .i64 o.kind,.int .i64 o.a,.int .i64 o.b,.int .i64 o.c,.string o.s,.string o.t] 28)):=Std.alloc ⟨⟨T,h⟩,Below.refl _ _⟩ _
 have hlt:w.heap.size<(w.alloc (.cells #[.int .i64 o.kind,.int .i64 o.a,.int .i64 o.b,.int .i64 o.c,.string o.s,.string o.t] 28)).heap.size:=by simp
 have hbx:Blk (w.alloc (.cells #[.int .i64 o.kind,.int .i64 o.a,.int .i64 o.b,.int .i64 o.c,.string o.s,.string o.t] 28)) w.heap.size 28 o.cells:=Blk.new rfl rfl
 have hbd:=h.bound
 have hoa:=hok.a
 have hob:=hok.b
 have HTW:=hide h.two
 have hpk1:=pickN_lt o.a σ.sp.length h1
 obtain ⟨p1,hp1⟩:∃ p,σ.sp[pickN o.a σ.sp.length]? = some p:=⟨_,List.getElem?_eq_getElem hpk1⟩
 obtain ⟨g1,cap1,hw1,hm1,hcell1⟩:=hS.two.1 _ p1 hp1
 have hpick1:=fun w=>pick_any o.a σ.sp.length w hoa.1 hoa.2 h1 (by omega)
 have jn1:(0:Int)<(σ.sp.length:Int):=by omega
 have kp1:(pickN o.a σ.sp.length:Int)<(σ.sp.length:Int):=by omega
 have zn1:((σ.sp.length:Int)==0)=false:=beq_eq_false_iff_ne.2 (by omega)
 have HPK1:=hide hpick1
 have HC1:=hide hcell1
 have HP1:=hide hp1
 have HF0:=hide (show ∀ w2,Std base B M σ w w2→w2.cell? ⟨B,0,none⟩=some (.slice (some ⟨g1,0,none⟩) σ.sp.length cap1) from fun w2 h2=>h2.field 0 (by show some σ.vsp=_;rw[hw1]))
 have HD:=hide (show ∀ w2,Std base B M σ w w2→p1.bx<w2.heap.size from fun w2 h2=>by
  obtain ⟨⟨T2,h3⟩,_⟩:=h2
  exact (h3.sp _ p1 hp1).1.1.lt)
 have HD0:=hide (show p1.bx≠w.heap.size from Nat.ne_of_lt (h.sp _ p1 hp1).1.1.lt)
 have HKL:=hide (And.intro hM (And.intro hM2 hsz))
 have HS:=hide hS
 have HX:=hide hbx
 have HOB:=hide hob
 clear hS h hbx hpick1 hcell1 hp1 hw1 hob hk hsz
 generalize hn1:σ.sp.length=n1 at *
 generalize pickN o.a n1=pk1 at *
 clear hn1
 have c0:=HF0.out _ HS.out
 have e0:=HX.out.cell (i:=0) (v:=.int .i64 o.kind) rfl
 have e2:=HX.out.cell (i:=2) (v:=.int .i64 o.b) rfl
 unfold opV
 go_enter Tryz.func35,Tryz.ntmps35
 go_wp2_with fail
 obtain ⟨⟨T9,hI9⟩,hB9⟩:=HS.out
 refine (lend_any hI9 o.b HOB.out.1 HOB.out.2).mono ?_
 rintro e w2 ⟨v,c,l,rfl,hb2,hl,hs1,hs2,hL⟩
 have hbx2:=HX.out.below hb2 hlt
 have e1:=hbx2.cell (i:=1) (v:=.int .i64 o.a) rfl
 have e4:=hbx2.cell (i:=4) (v:=.string o.s) rfl
 have HS2:=hide (HS.out.below hb2)
 have HST:=hide (And.intro hs1 hs2)
 have HL:=hide (And.intro hl hL)
 clear hI9 hB9 HS HX hb2 hbx2 hs1 hs2 hl hL c0 e2 e0
 have c0:=HF0.out _ HS2.out
 generalize hsb:w.heap.size=sb at *
 go_wp2
 refine wp_letterW (fun w'=>(Std base B M σ w w'∧Strs w' v l∧Strs w' c l)∧w'.cell? ⟨sb,1,none⟩=some (.int .i64 o.a)∧w'.cell? ⟨sb,4,none⟩=some (.string o.s)) ⟨⟨HS2.out,HST.out⟩,e1,e4⟩ ?_
 clear c0 e1 e4 HS2 HST
 rintro wq1 ⟨hS1,e1,e4⟩
 have c0:=HF0.out _ hS1.1
 obtain ⟨d0,d1⟩:=HC1.out _ hS1.1
 replace hS1:=hide hS1
 go_region_held3 (fun w'=>w'.cell? ⟨B,0,none⟩=some (.slice (some ⟨g1,0,none⟩) n1 cap1)∧w'.cell? ⟨sb,1,none⟩=some (.int .i64 o.a)∧w'.cell? ⟨g1,pk1*2,none⟩=some (.pointer (some ⟨p1.bx,0,none⟩))∧w'.cell? ⟨g1,pk1*2+1,none⟩=some (.pointer (some ⟨p1.bm,0,none⟩))) (refine ⟨?_,?_,?_,?_⟩ <;> first | assumption | (exact World.cell?_alloc_later _ _ _ (by assumption))) ((go_at_call 48;refine (HPK1.out _).mono ?_;rintro e w' ⟨rfl,rfl⟩))
 all_goals
  have hbA:Below wq1.heap.size wq1 (wq1.alloc (.cells #[.pointer (some ⟨p1.bx,0,none⟩),.pointer (some ⟨p1.bm,0,none⟩)] 91)).drew:=((Below.refl _ _).alloc (Nat.le_refl _) _).drew
  have hSn:=(hS1.out.1.alloc (.cells #[.pointer (some ⟨p1.bx,0,none⟩),.pointer (some ⟨p1.bm,0,none⟩)] 91)).drew
  have hsv:=hS1.out.2.1.after hbA
  have hsc:=hS1.out.2.2.after hbA
  have y0:((wq1.alloc (.cells #[.pointer (some ⟨p1.bx,0,none⟩),.pointer (some ⟨p1.bm,0,none⟩)] 91)).drew).cell? ⟨wq1.heap.size,0,none⟩=some (.pointer (some ⟨p1.bx,0,none⟩)):=World.cell?_alloc_at _ _ _ _ rfl
  have y1:((wq1.alloc (.cells #[.pointer (some ⟨p1.bx,0,none⟩),.pointer (some ⟨p1.bm,0,none⟩)] 91)).drew).cell? ⟨wq1.heap.size,1,none⟩=some (.pointer (some ⟨p1.bm,0,none⟩)):=World.cell?_alloc_at _ _ _ _ rfl
  have e4':((wq1.alloc (.cells #[.pointer (some ⟨p1.bx,0,none⟩),.pointer (some ⟨p1.bm,0,none⟩)] 91)).drew).cell? ⟨sb,4,none⟩=some (.string o.s):=World.cell?_alloc_later wq1 _ _ e4
  have hd1:=HD.out wq1 hS1.out.1
  clear c0 d0 d1 e1 e4 hS1 hbA
  generalize hWB:(wq1.alloc (.cells #[.pointer (some ⟨p1.bx,0,none⟩),.pointer (some ⟨p1.bm,0,none⟩)] 91)).drew=WB at *
  generalize hs1e:wq1.heap.size=s1 at *
  clear hWB hs1e
  have hl1:s1<WB.heap.size:=cell_lt y1
  have hl2:sb<WB.heap.size:=cell_lt e4'
  obtain ⟨⟨T9,hI9⟩,hB9⟩:=hSn
  obtain ⟨b1,h2b,hpos,hpz,hM1,hFin⟩:=hI9.newsE HP1.out
  obtain ⟨hll,hL1,hL2⟩:=HL.out
  have hMb:=hI9.bound.1
  obtain ⟨hkl1,hkl2,hkl3⟩:=HKL.out
  have HPX:=hide (encrypt_any v l p1.bx p1.text p1.pos.toNat o.s WB ⟨hI9.kt,hI9.ht,Nat.le_trans HTW.out hI9.bsz⟩ hsv (fun g o n c hv hl=>hL1 g o n c hv hl _ _ HP1.out) (by omega) b1 h2b hpos (by omega) (by omega))
  have HPM:=hide (fun w2 (hC:WB.grownBy w2 (some p1.bx))=>lawEnc_any c l p1.bm p1.text p1.pos.toNat o.s w2 (hsc.grown hC (fun g o n k hv hl=>((hL2 g o n k hv hl).1 _ _ HP1.out).1)) (fun g o n k hv hl=>((hL2 g o n k hv hl).1 _ _ HP1.out).2) (by omega) (hM1 w2 hC) hpos (by omega) (by omega))
  have HY:=hide (fun w2 (hC:WB.grownBy w2 (some p1.bx))=>And.intro (show w2.cell? ⟨s1,1,none⟩=_ from by simp only[World.cell?,hC.block s1 hl1 (fun e=>absurd (Option.some.inj e) (Nat.ne_of_gt hd1))];exact y1) (show w2.cell? ⟨sb,4,none⟩=_ from by simp only[World.cell?,hC.block sb hl2 (fun e=>HD0.out (Option.some.inj e).symm)];exact e4'))
  have HBP:=hide (beginP_le l p1.text p1.pos.toNat hpos)
  have HFS:=hide (file_size l p1.text p1.pos.toNat o.s)
  have HFN:=hide hFin
  have HB9:=hide hB9
  clear hI9 hB9 b1 h2b hpz hM1 hFin hsv hsc hL1 hL2 hll hl1 hl2 hd1 HF0 HC1 HPK1 HD hpos
  go_wp2_with fail
  refine HPX.out.mono ?_
  rintro e w3 ⟨rfl,hB3,hG3⟩
  obtain ⟨y1,e4⟩:=HY.out w3 hG3
  have HM3:=hide (HPM.out w3 hG3)
  have HG3:=hide (And.intro hG3 hB3)
  clear HPX HPM HY hG3 hB3 y0 e4'
  unfold EncP at HM3
  generalize (if Ref.beginE l p1.text p1.pos.toNat=0 then (⟨(Ref.file l p1.text p1.pos.toNat o.s.data.toList).toArray⟩:ByteArray) else ⟨#[]⟩)=FF at *
  generalize Ref.beginE l p1.text p1.pos.toNat=EE at *
  go_wp2_with fail
  refine HM3.out.mono ?_
  rintro e w4 ⟨rfl,hB4,hG4⟩
  obtain ⟨T4,hI4,hB4'⟩:=HFN.out _ w3 w4 HG3.out.1 HG3.out.2 hG4 hB4 HBP.out
  have HB4:=hide (HB9.out.trans hB4')
  have HI4:=hide hI4
  have HW:=hide (word_any hI4 FF hkl1 hkl2 (by have:=HFS.out;omega))
  clear hI4 hB4 hG4 HM3 HG3 HFN HFS HB9 HBP hB4' y1 e4
  go_wp2_with fail
  refine HW.out.mono ?_
  rintro e w5 ⟨rfl,T5,v5,hI5,hst⟩
  have HF:=hide (show Done base B M' w w5 from ⟨_,_,hI5,HB4.out.trans (hst.below HI4.out.bsz HI4.out.old (by simp))⟩)
  clear hI5 hst HW HI4 HB4
  go_wp2
  go_ret
  exact ⟨by simp,HF.out⟩
theorem whole_15 {T:Tags} {base B M M':Nat} {σ:Sig} {w:World} (h:Inv T base B M σ w) (o:OpR) (hok:o.ok) (hk:o.kind=15) (hsz:o.s.size≤M) (hM:M<M') (hM2:M'≤1073741824):
  Calls Tryz.prog 35 #[.pointer (some ⟨B,0,none⟩),opV o] w fun e w'=>e = .returned (.bool true)∧Done base B M' w w':=by
 rcases Nat.eq_zero_or_pos σ.sp.length with h1 | h1
 ·exact whole_15n h o hk hM hM2 h1
 ·exact whole_15s h o hok hk hsz hM hM2 h1
theorem at_none {s:Ref.Wr} {key p:List UInt8} {i:Nat} (h:s.at key p i=none):∀ d,s.at key p (i+d)=none
 | 0=>h
 | d+1=>by
  rw[←Nat.add_assoc,Ref.Wr.at,at_none h d]
  rfl
theorem at_first {s r q:Ref.Wr} {key p:List UInt8} {i j:Nat} (h:s.at key p i=some r) (h16:r.t.length=16) (ho:r.k.ok (r.box key false)=false) (hj:s.at key p j=some q):j≤i:=by
 rcases Nat.lt_or_ge i j with e | e
 ·have hn:s.at key p (i+1)=none:=by
   rw[Ref.Wr.at,h]
   show r.step key (p.getD i 0)=none
   unfold Ref.Wr.step
   rw[if_pos h16,ho]
   rfl
  have:=at_none hn (j-(i+1))
  rw[show i+1+(j-(i+1))=j by omega,hj] at this
  cases this
 ·exact e
set_option maxRecDepth 100000 in
set_option maxHeartbeats 800000 in
theorem used_6n {T:Tags} {base B M M':Nat} {σ:Sig} {w:World} (h:Inv T base B M σ w) (o:OpR) (hk:o.kind=6) (hM:M<M') (hM2:M'≤1073741824) (h1:σ.wr.length=0):
  Calls Tryz.prog 34 #[.pointer (some ⟨B,0,none⟩),opV o] w fun e w'=>e = .returned (.bool true)∧Done base B M' w w':=by
 have z6:(o.kind==6)=true:=beq_iff_eq.2 hk
 have hS:Std base B M σ w (w.alloc (.cells #[.int .i64 o.kind,.int .i64 o.a,.int .i64 o.b,.int .i64 o.c,.string o.s,.string o.t] 28)):=Std.alloc ⟨⟨T,h⟩,Below.refl _ _⟩ _
 obtain ⟨ao1,cp1,hv1⟩:=hS.lenWr
 have c1:=hS.field 3 (v:=.slice ao1 0 cp1) (by show some σ.vwr=_;rw[hv1,h1])
 have HS:=hide (hS.more (Nat.le_of_lt hM) hM2)
 clear hS h hv1 h1 hk
 unfold opV
 go_enter Tryz.func34,Tryz.ntmps34
 go_wp2
 go_ret
 exact ⟨rfl,HS.out.done⟩
set_option maxRecDepth 100000 in
set_option maxHeartbeats 800000 in
theorem used_7n {T:Tags} {base B M M':Nat} {σ:Sig} {w:World} (h:Inv T base B M σ w) (o:OpR) (hk:o.kind=7) (hM:M<M') (hM2:M'≤1073741824) (h1:σ.wr.length=0):
  Calls Tryz.prog 34 #[.pointer (some ⟨B,0,none⟩),opV o] w fun e w'=>e = .returned (.bool true)∧Done base B M' w w':=by
 have z6:(o.kind==6)=false:=beq_eq_false_iff_ne.2 (by rw[hk];decide)
 have z7:(o.kind==7)=true:=beq_iff_eq.2 hk
 have hS:Std base B M σ w (w.alloc (.cells #[.int .i64 o.kind,.int .i64 o.a,.int .i64 o.b,.int .i64 o.c,.string o.s,.string o.t] 28)):=Std.alloc ⟨⟨T,h⟩,Below.refl _ _⟩ _
 obtain ⟨ao1,cp1,hv1⟩:=hS.lenWr
 have c1:=hS.field 3 (v:=.slice ao1 0 cp1) (by show some σ.vwr=_;rw[hv1,h1])
 have HS:=hide (hS.more (Nat.le_of_lt hM) hM2)
 clear hS h hv1 h1 hk
 unfold opV
 go_enter Tryz.func34,Tryz.ntmps34
 go_wp2
 go_ret
 exact ⟨rfl,HS.out.done⟩
set_option maxRecDepth 100000 in
set_option maxHeartbeats 1600000 in
theorem used_6s {T:Tags} {base B M M':Nat} {σ:Sig} {w:World} (h:Inv T base B M σ w) (o:OpR) (hok:o.ok) (hk:o.kind=6) (hM:M+o.s.size<M') (hM2:M'≤1073741824) (h1:0<σ.wr.length):
  Calls Tryz.prog 34 #[.pointer (some ⟨B,0,none⟩),opV o] w fun e w'=>e = .returned (.bool true)∧Done base B M' w w':=by
 have z6:(o.kind==6)=true:=beq_iff_eq.2 hk
 have hS:Std base B M σ w (w.alloc (.cells #[.int .i64 o.kind,.int .i64 o.a,.int .i64 o.b,.int .i64 o.c,.string o.s,.string o.t] 28)):=Std.alloc ⟨⟨T,h⟩,Below.refl _ _⟩ _
 have e1:(w.alloc (.cells #[.int .i64 o.kind,.int .i64 o.a,.int .i64 o.b,.int .i64 o.c,.string o.s,.string o.t] 28)).cell? ⟨w.heap.size,1,none⟩=some (.int .i64 o.a):=World.cell?_alloc_at _ _ _ _ rfl
 have e4:(w.alloc (.cells #[.int .i64 o.kind,.int .i64 o.a,.int .i64 o.b,.int .i64 o.c,.string o.s,.string o.t] 28)).cell? ⟨w.heap.size,4,none⟩=some (.string o.s):=World.cell?_alloc_at _ _ _ _ rfl
 have hbd:=h.bound
 have hnf:=h.nwr
 have hoa:=hok.a
 have hob:=hok.b
 have hoc:=hok.c
 have hpk1:=pickN_lt o.a σ.wr.length h1
 obtain ⟨p1,hp1⟩:∃ p,σ.wr[pickN o.a σ.wr.length]? = some p:=⟨_,List.getElem?_eq_getElem hpk1⟩
 obtain ⟨g1,cap1,hw1,hm1,hcell1⟩:=hS.twoWr _ p1 hp1
 have hpick1:=fun w=>pick_any o.a σ.wr.length w hoa.1 hoa.2 h1 (by omega)
 have jn1:(0:Int)<(σ.wr.length:Int):=by omega
 have kp1:(pickN o.a σ.wr.length:Int)<(σ.wr.length:Int):=by omega
 have HPK1:=hide hpick1
 have HC1:=hide hcell1
 have HP1:=hide hp1
 have HN1:=hide hnf
 have HMB:=hide hbd.1
 have HKL:=hide (And.intro hM hM2)
 have HD1:=hide (show ∀ w2,Std base B M σ w w2→p1.bx≠w.heap.size∧p1.sx≠w.heap.size from fun w2 h2=>by
  obtain ⟨b1,_,_,s1,hs1,hsx,_⟩:=h.wr _ p1 hp1
  have l1:=b1.1.lt
  have l2:=(h.si _ s1 hs1).1.1.1.lt
  rw[hsx] at l2
  omega)
 have HD2:=hide (show ∀ w2,Std base B M σ w w2→p1.bx<w2.heap.size∧p1.sx<w2.heap.size from fun w2 h2=>by
  obtain ⟨⟨T2,h3⟩,_⟩:=h2
  obtain ⟨b1,_,_,s1,hs1,hsx,_⟩:=h3.wr _ p1 hp1
  have l2:=(h3.si _ s1 hs1).1.1.1.lt
  rw[hsx] at l2
  exact ⟨b1.1.lt,l2⟩)
 have HF0:=hide (show ∀ w2,Std base B M σ w w2→w2.cell? ⟨B,3,none⟩=some (.slice (some ⟨g1,0,none⟩) σ.wr.length cap1) from fun w2 h2=>h2.field 3 (by show some σ.vwr=_;rw[hw1]))
 have HS:=hide hS
 clear hS h hw1 hk hpick1 hcell1 hp1
 generalize hn1:σ.wr.length=n1 at *
 generalize pickN o.a n1=pk1 at *
 clear hn1
 have c0:=HF0.out _ HS.out
 unfold opV
 go_enter Tryz.func34,Tryz.ntmps34
 go_wp2
 refine wp_letterW (fun w'=>Std base B M σ w w'∧w'.cell? ⟨w.heap.size,1,none⟩=some (.int .i64 o.a)∧w'.cell? ⟨w.heap.size,4,none⟩=some (.string o.s)) ⟨HS.out,e1,e4⟩ ?_
 clear c0 e1 e4 HS
 rintro wq1 ⟨hS1,e1,e4⟩
 have c0:=HF0.out _ hS1
 obtain ⟨d0,d1⟩:=HC1.out _ hS1
 replace hS1:=hide hS1
 go_region_held3 (fun w'=>w'.cell? ⟨B,3,none⟩=some (.slice (some ⟨g1,0,none⟩) n1 cap1)∧w'.cell? ⟨w.heap.size,1,none⟩=some (.int .i64 o.a)∧w'.cell? ⟨w.heap.size,4,none⟩=some (.string o.s)∧w'.cell? ⟨g1,pk1*2,none⟩=some (.pointer (some ⟨p1.bx,0,none⟩))∧w'.cell? ⟨g1,pk1*2+1,none⟩=some (.pointer (some ⟨p1.bm,0,none⟩))) (refine ⟨?_,?_,?_,?_,?_⟩ <;> first | assumption | (exact World.cell?_alloc_later _ _ _ (by assumption))) ((go_at_call 48;refine (HPK1.out _).mono ?_;rintro e w' ⟨rfl,rfl⟩))
 all_goals
  have HSn:=hide ((hS1.out.alloc (.cells #[.pointer (some ⟨p1.bx,0,none⟩),.pointer (some ⟨p1.bm,0,none⟩)] 121)).drew)
  obtain ⟨⟨T9,hI9⟩,hB9⟩:=HSn.out
  obtain ⟨t,n1,n2,n2',n3,n4,n4',g1,g2,g3,hop,hcell,hF1,hF2⟩:=hI9.writes HP1.out
  have y1:((wq1.alloc (.cells #[.pointer (some ⟨p1.bx,0,none⟩),.pointer (some ⟨p1.bm,0,none⟩)] 121)).drew).cell? ⟨wq1.heap.size,1,none⟩=some (.pointer (some ⟨p1.bm,0,none⟩)):=World.cell?_alloc_at _ _ _ _ rfl
  have y2:((wq1.alloc (.cells #[.pointer (some ⟨p1.bx,0,none⟩),.pointer (some ⟨p1.bm,0,none⟩)] 121)).drew).cell? ⟨w.heap.size,4,none⟩=some (.string o.s):=World.cell?_alloc_later wq1 _ _ e4
  have hl1:w.heap.size<((wq1.alloc (.cells #[.pointer (some ⟨p1.bx,0,none⟩),.pointer (some ⟨p1.bm,0,none⟩)] 121)).drew).heap.size:=cell_lt y2
  have hl2:wq1.heap.size<((wq1.alloc (.cells #[.pointer (some ⟨p1.bx,0,none⟩),.pointer (some ⟨p1.bm,0,none⟩)] 121)).drew).heap.size:=cell_lt y1
  have hd1:=HD1.out wq1 hS1.out
  have hd2:=HD2.out wq1 hS1.out
  have HY:=hide (fun w2 (hb2:Chg (fun x=>x=p1.bx∨x=p1.sx) ((wq1.alloc (.cells #[.pointer (some ⟨p1.bx,0,none⟩),.pointer (some ⟨p1.bm,0,none⟩)] 121)).drew) w2)=>And.intro ((chg_cell hb2 hl2 (fun e=>e.elim (fun e=>absurd e (Nat.ne_of_gt hd2.1)) (fun e=>absurd e (Nat.ne_of_gt hd2.2)))).trans y1) ((chg_cell hb2 hl1 (fun e=>e.elim (fun e=>hd1.1 e.symm) (fun e=>hd1.2 e.symm))).trans y2))
  have HB9:=hide hB9
  by_cases he:p1.e=0
  ·obtain ⟨k1,k2,k3,k4⟩:=hop he
   have HRX:=hide (write_any p1.bx p1.sx t.gx p1.key (wrOf p1 t) o.s _ k3 k1 n1 n2 n2' (by have:=HMB.out;show p1.n+o.s.size+10≤_;omega) (by have:=HMB.out;show t.snk.got.size+_+_<_;omega) (by have:=HMB.out;show t.snk.pos+_+_<_;omega))
   have HRM:=hide (fun w2 hC=>refWrite_any p1.bm p1.sm t.gm p1.key (wrOf p1 t) o.s w2 (k4 w2 hC) k1 n3 n4 n4' (by have:=HMB.out;show p1.n+o.s.size+10≤_;omega) (by have:=HMB.out;show t.snk.got.size+_+_<_;omega) (by have:=HMB.out;show t.snk.pos+_+_<_;omega))
   have HFT:=hide (Ref.Wr.at_fits (wrOf p1 t) k3.t16 p1.key.data.toList o.s.data.toList)
   have HKP:=hide (at_keep (s:=wrOf p1 t) (key:=p1.key.data.toList) (p:=o.s.data.toList) g2)
   have HF1:=hide hF1
   have HF2:=hide hF2
   have HK1:=hide (And.intro k1 (And.intro k2 (And.intro g1 HKL.out)))
   clear c0 d0 d1 e1 e4 hS1 HF0 HC1 hl1 hl2 hI9 hB9 hop hcell hF1 hF2 k1 k2 k3 k4 hd1 hd2 HD1 HD2 HSn n1 n2 n2' n3 n4 n4' g1 g2 g3 he
   go_wp2_with fail
   refine HRX.out.mono ?_
   rintro e w2 hW
   have hW0:Chg (fun x=>x=p1.bx∨x=p1.sx) ((wq1.alloc (.cells #[.pointer (some ⟨p1.bx,0,none⟩),.pointer (some ⟨p1.bm,0,none⟩)] 121)).drew) w2:=by
    rcases hW with ⟨_,_,_,_,hC⟩ | ⟨_,_,_,_,_,_,_,_,_,hC⟩ <;> exact hC
   obtain ⟨y1',y2'⟩:=HY.out w2 hW0
   have HM2:=hide (HRM.out w2 hW0)
   rcases hW with ⟨r,a1,rfl,a3,a4⟩ | ⟨i,r,a1,a2,a3,a4,rfl,a6,a7,a8⟩
   ·have HA:=hide (And.intro a1 (And.intro a3 a4))
    clear a1 a3 a4 hW0 HY HRX HRM y1 y2
    go_wp2_with fail
    refine HM2.out.mono ?_
    rintro e w3 hV
    obtain ⟨a1,a3,a4⟩:=HA.out
    rcases hV with ⟨q,c1,rfl,c3,c4⟩ | ⟨i,q,tx,nn,c1,c2,c3,c4,_⟩
    ·obtain rfl:r=q:=Option.some.inj (a1.symm.trans c1)
     have ft:=HFT.out _ _ a1
     obtain ⟨kp1,kp2⟩:=HKP.out _ _ a1
     obtain ⟨k1,k2,g1,hM,hM2⟩:=HK1.out
     have HDN:=hide (Done.from HB9.out (HF1.out M' r w2 w3 (by omega) hM2 k1 a3 a4 c3 c4 ft.plan (by have h1:=ft.got;have h2:(wrOf p1 t).k.got.size≤512*M:=g1;omega) kp1 (by have h2:16*(wrOf p1 t).n+(wrOf p1 t).t.length≤M:=k2;omega)))
     clear a1 a3 a4 c1 c3 c4 ft kp1 kp2 k1 k2 g1 HM2 HFT HKP HF1 HF2 HA y1' y2'
     go_wp2
     go_ret
     exact ⟨by simp,HDN.out⟩
    ·exact absurd (at_first c2 c3 c4 a1) (by omega)
   ·have HA:=hide (And.intro a1 (And.intro a2 (And.intro a3 (And.intro a4 (And.intro a6 (And.intro a7 a8))))))
    clear a1 a2 a3 a4 a6 a7 a8 hW0 HY HRX HRM y1 y2
    go_wp2_with fail
    refine HM2.out.mono ?_
    rintro e w3 hV
    obtain ⟨a1,a2,a3,a4,a6,a7,a8⟩:=HA.out
    rcases hV with ⟨q,c1,rfl,c3,c4⟩ | ⟨i',q,tx,nn,c1,c2,c3,c4,rfl,c6,c7,c8⟩
    ·exact absurd (at_first a2 a3 a4 c1) (by omega)
    ·obtain rfl:i=i':=Nat.le_antisymm (at_first c2 c3 c4 a2) (at_first a2 a3 a4 c2)
     obtain rfl:r=q:=Option.some.inj (a2.symm.trans c2)
     have ft:=HFT.out _ _ a2
     obtain ⟨kp1,kp2⟩:=HKP.out _ _ a2
     obtain ⟨k1,k2,g1,hM,hM2⟩:=HK1.out
     have hbz:(r.box p1.key.data.toList false).size≤32:=by
      have h1:=Ref.box_size p1.key.data.toList r.n false r.t
      have h2:(r.box p1.key.data.toList false).size=(Ref.box p1.key.data.toList r.n false r.t).length:=ba_size _
      omega
     have HDN:=hide (Done.from HB9.out (HF2.out M' (r.k.put (r.box p1.key.data.toList false)) 16 p1.key tx nn w2 w3 (by omega) hM2 (by decide) a6 a7 a8 c6 c7 c8 ft.plan (by have h0:=r.k.put_size (r.box p1.key.data.toList false);have h1:=ft.got;have h2:(wrOf p1 t).k.got.size≤512*M:=g1;omega) (put_keep kp1 _)))
     clear a1 a2 a3 a4 a6 a7 a8 c1 c2 c3 c4 c6 c7 c8 ft kp1 kp2 k1 k2 g1 HM2 HFT HKP HF1 HF2 HA y1' y2' hbz
     go_wp2
     go_ret
     exact ⟨by simp,HDN.out⟩
  ·have HRX:=hide (fun w' c=>writeFin_any p1.bx p1.e o.s w' c he)
   have HRM:=hide (fun w' c=>refWriteFin_any p1.bm p1.e o.s w' c he)
   have HCE:=hide hcell
   have hc1:=hcell.1
   have HDN:=hide (fun m=>(HSn.out.drewN m).more (Nat.le_of_lt (show M<M' by have:=HKL.out.1;omega)) HKL.out.2)
   have e4a:(wq1.alloc (.cells #[.pointer (some ⟨p1.bx,0,none⟩),.pointer (some ⟨p1.bm,0,none⟩)] 121)).cell? ⟨w.heap.size,4,none⟩=some (.string o.s):=World.cell?_alloc_later wq1 _ _ e4
   clear c0 d0 d1 e1 hS1 HF0 HC1 hl1 hl2 hI9 hB9 hop hcell hF1 hF2 hd1 hd2 HD1 HD2 n1 n2 n2' n3 n4 n4' g1 g2 g3 HY HSn HB9
   go_wp2_with fail
   refine (HRX.out _ HCE.out.1).mono ?_
   rintro e w2 ⟨rfl,m,rfl⟩
   go_wp2_with fail
   refine (HRM.out _ (by simpa using HCE.out.2)).mono ?_
   rintro e w2 ⟨rfl,m2,rfl⟩
   clear y1 y2 hc1 e4 e4a
   go_wp2
   go_ret
   refine ⟨by simp,Std.done (Std.eqv (HDN.out 0) ?_ ?_ ?_ ?_)⟩ <;> rfl
set_option maxRecDepth 100000 in
set_option maxHeartbeats 1600000 in
theorem used_7s {T:Tags} {base B M M':Nat} {σ:Sig} {w:World} (h:Inv T base B M σ w) (o:OpR) (hok:o.ok) (hk:o.kind=7) (hM:M<M') (hM2:M'≤1073741824) (h1:0<σ.wr.length):
  Calls Tryz.prog 34 #[.pointer (some ⟨B,0,none⟩),opV o] w fun e w'=>e = .returned (.bool true)∧Done base B M' w w':=by
 have z6:(o.kind==6)=false:=beq_eq_false_iff_ne.2 (by rw[hk];decide)
 have z7:(o.kind==7)=true:=beq_iff_eq.2 hk
 have hS:Std base B M σ w (w.alloc (.cells #[.int .i64 o.kind,.int .i64 o.a,.int .i64 o.b,.int .i64 o.c,.string o.s,.string o.t] 28)):=Std.alloc ⟨⟨T,h⟩,Below.refl _ _⟩ _
 have e1:(w.alloc (.cells #[.int .i64 o.kind,.int .i64 o.a,.int .i64 o.b,.int .i64 o.c,.string o.s,.string o.t] 28)).cell? ⟨w.heap.size,1,none⟩=some (.int .i64 o.a):=World.cell?_alloc_at _ _ _ _ rfl
 have hbd:=h.bound
 have hnf:=h.nwr
 have hoa:=hok.a
 have hob:=hok.b
 have hoc:=hok.c
 have hpk1:=pickN_lt o.a σ.wr.length h1
 obtain ⟨p1,hp1⟩:∃ p,σ.wr[pickN o.a σ.wr.length]? = some p:=⟨_,List.getElem?_eq_getElem hpk1⟩
 obtain ⟨g1,cap1,hw1,hm1,hcell1⟩:=hS.twoWr _ p1 hp1
 have hpick1:=fun w=>pick_any o.a σ.wr.length w hoa.1 hoa.2 h1 (by omega)
 have jn1:(0:Int)<(σ.wr.length:Int):=by omega
 have kp1:(pickN o.a σ.wr.length:Int)<(σ.wr.length:Int):=by omega
 have HPK1:=hide hpick1
 have HC1:=hide hcell1
 have HP1:=hide hp1
 have HN1:=hide hnf
 have HMB:=hide hbd.1
 have HKL:=hide (And.intro hM hM2)
 have HD1:=hide (show ∀ w2,Std base B M σ w w2→p1.bx≠w.heap.size∧p1.sx≠w.heap.size from fun w2 h2=>by
  obtain ⟨b1,_,_,s1,hs1,hsx,_⟩:=h.wr _ p1 hp1
  have l1:=b1.1.lt
  have l2:=(h.si _ s1 hs1).1.1.1.lt
  rw[hsx] at l2
  omega)
 have HD2:=hide (show ∀ w2,Std base B M σ w w2→p1.bx<w2.heap.size∧p1.sx<w2.heap.size from fun w2 h2=>by
  obtain ⟨⟨T2,h3⟩,_⟩:=h2
  obtain ⟨b1,_,_,s1,hs1,hsx,_⟩:=h3.wr _ p1 hp1
  have l2:=(h3.si _ s1 hs1).1.1.1.lt
  rw[hsx] at l2
  exact ⟨b1.1.lt,l2⟩)
 have HF0:=hide (show ∀ w2,Std base B M σ w w2→w2.cell? ⟨B,3,none⟩=some (.slice (some ⟨g1,0,none⟩) σ.wr.length cap1) from fun w2 h2=>h2.field 3 (by show some σ.vwr=_;rw[hw1]))
 have HS:=hide hS
 clear hS h hw1 hk hpick1 hcell1 hp1
 generalize hn1:σ.wr.length=n1 at *
 generalize pickN o.a n1=pk1 at *
 clear hn1
 have c0:=HF0.out _ HS.out
 unfold opV
 go_enter Tryz.func34,Tryz.ntmps34
 go_wp2
 refine wp_letterW (fun w'=>Std base B M σ w w'∧w'.cell? ⟨w.heap.size,1,none⟩=some (.int .i64 o.a)) ⟨HS.out,e1⟩ ?_
 clear c0 e1 HS
 rintro wq1 ⟨hS1,e1⟩
 have c0:=HF0.out _ hS1
 obtain ⟨d0,d1⟩:=HC1.out _ hS1
 replace hS1:=hide hS1
 go_region_held3 (fun w'=>w'.cell? ⟨B,3,none⟩=some (.slice (some ⟨g1,0,none⟩) n1 cap1)∧w'.cell? ⟨w.heap.size,1,none⟩=some (.int .i64 o.a)∧w'.cell? ⟨g1,pk1*2,none⟩=some (.pointer (some ⟨p1.bx,0,none⟩))∧w'.cell? ⟨g1,pk1*2+1,none⟩=some (.pointer (some ⟨p1.bm,0,none⟩))) (refine ⟨?_,?_,?_,?_⟩ <;> first | assumption | (exact World.cell?_alloc_later _ _ _ (by assumption))) ((go_at_call 48;refine (HPK1.out _).mono ?_;rintro e w' ⟨rfl,rfl⟩))
 all_goals
  have HSn:=hide ((hS1.out.alloc (.cells #[.pointer (some ⟨p1.bx,0,none⟩),.pointer (some ⟨p1.bm,0,none⟩)] 121)).drew)
  obtain ⟨⟨T9,hI9⟩,hB9⟩:=HSn.out
  obtain ⟨t,n1,n2,n2',n3,n4,n4',g1,g2,g3,hop,hcell,hF1,hF2⟩:=hI9.writes HP1.out
  have y1:((wq1.alloc (.cells #[.pointer (some ⟨p1.bx,0,none⟩),.pointer (some ⟨p1.bm,0,none⟩)] 121)).drew).cell? ⟨wq1.heap.size,1,none⟩=some (.pointer (some ⟨p1.bm,0,none⟩)):=World.cell?_alloc_at _ _ _ _ rfl
  have hl2:wq1.heap.size<((wq1.alloc (.cells #[.pointer (some ⟨p1.bx,0,none⟩),.pointer (some ⟨p1.bm,0,none⟩)] 121)).drew).heap.size:=cell_lt y1
  have hd1:=HD1.out wq1 hS1.out
  have hd2:=HD2.out wq1 hS1.out
  have HY:=hide (fun w2 (hb2:Chg (fun x=>x=p1.bx∨x=p1.sx) ((wq1.alloc (.cells #[.pointer (some ⟨p1.bx,0,none⟩),.pointer (some ⟨p1.bm,0,none⟩)] 121)).drew) w2)=>((chg_cell hb2 hl2 (fun e=>e.elim (fun e=>absurd e (Nat.ne_of_gt hd2.1)) (fun e=>absurd e (Nat.ne_of_gt hd2.2)))).trans y1))
  have HB9:=hide hB9
  by_cases he:p1.e=0
  ·obtain ⟨k1,k2,k3,k4⟩:=hop he
   have HRX:=hide (close_any p1.bx p1.sx t.gx p1.key (wrOf p1 t) _ k3 k1 n1 (by have:=HMB.out;show p1.n+10≤_;omega) (by have:=HMB.out;show t.snk.got.size+_<_;omega) (by have:=HMB.out;show t.snk.pos+_<_;omega))
   have HRM:=hide (fun w2 hC=>refClose_any p1.bm p1.sm t.gm p1.key (wrOf p1 t) w2 (k4 w2 hC) k1 n3 (by have:=HMB.out;show p1.n+10≤_;omega) (by have:=HMB.out;show t.snk.got.size+_<_;omega) (by have:=HMB.out;show t.snk.pos+_<_;omega))
   have HF2:=hide hF2
   have HT16:=hide k3.t16
   have HK1:=hide (And.intro g1 (And.intro g2 HKL.out))
   clear c0 d0 d1 e1 hS1 HF0 HC1 hl2 hI9 hB9 hop hcell hF1 hF2 k1 k2 k3 k4 hd1 hd2 HD1 HD2 HSn n1 n2 n2' n3 n4 n4' g1 g2 g3 he
   go_wp2_with fail
   refine HRX.out.mono ?_
   rintro e w2 ⟨rfl,a2,a3,a4⟩
   have y1':=HY.out w2 a4
   have HM2:=hide (HRM.out w2 a4)
   have HA:=hide (And.intro a2 (And.intro a3 a4))
   clear a2 a3 a4 HY HRX HRM y1
   go_wp2_with fail
   refine HM2.out.mono ?_
   rintro e w3 ⟨rfl,⟨tx,nn,c2⟩,c3,c4⟩
   obtain ⟨a2,a3,a4⟩:=HA.out
   obtain ⟨g1,g2,hM,hM2⟩:=HK1.out
   have hbz:((wrOf p1 t).box p1.key.data.toList true).size≤32:=by
    have h1:=Ref.box_size p1.key.data.toList (wrOf p1 t).n true (wrOf p1 t).t
    have h2:((wrOf p1 t).box p1.key.data.toList true).size=(Ref.box p1.key.data.toList (wrOf p1 t).n true (wrOf p1 t).t).length:=ba_size _
    have h3:=HT16.out
    omega
   have HDN:=hide (Done.from HB9.out (HF2.out M' ((wrOf p1 t).k.put ((wrOf p1 t).box p1.key.data.toList true)) _ p1.key tx nn w2 w3 (Nat.le_of_lt hM) hM2 (by split <;> decide) a2 a3 a4 c2 c3 c4 rfl (by have h0:=(wrOf p1 t).k.put_size ((wrOf p1 t).box p1.key.data.toList true);have h2:(wrOf p1 t).k.got.size≤512*M:=g1;omega) (put_keep g2 _)))
   generalize (wrOf p1 t).k.err ((wrOf p1 t).box p1.key.data.toList true)=ee at *
   clear a2 a3 a4 c2 c3 c4 g1 g2 HM2 HF2 HA y1' hbz
   go_wp2
   go_ret
   exact ⟨by simp,HDN.out⟩
  ·have HRX:=hide (fun w' c=>closeFin_any p1.bx p1.e w' c he)
   have HRM:=hide (fun w' c=>refCloseFin_any p1.bm p1.e w' c he)
   have HCE:=hide hcell
   have HDN:=hide (fun m=>(HSn.out.drewN m).more (Nat.le_of_lt HKL.out.1) HKL.out.2)
   clear c0 d0 d1 e1 hS1 HF0 HC1 hl2 hI9 hB9 hop hcell hF1 hF2 hd1 hd2 HD1 HD2 n1 n2 n2' n3 n4 n4' g1 g2 g3 HY HSn HB9
   go_wp2_with fail
   refine (HRX.out _ HCE.out.1).mono ?_
   rintro e w2 ⟨rfl,m,rfl⟩
   go_wp2_with fail
   refine (HRM.out _ (by simpa using HCE.out.2)).mono ?_
   rintro e w2 ⟨rfl,m2,rfl⟩
   clear y1
   go_wp2
   go_ret
   refine ⟨by simp,Std.done (Std.eqv (HDN.out 0) ?_ ?_ ?_ ?_)⟩ <;> rfl
theorem used_6 {T:Tags} {base B M M':Nat} {σ:Sig} {w:World} (h:Inv T base B M σ w) (o:OpR) (hok:o.ok) (hk:o.kind=6) (hM:M+o.s.size<M') (hM2:M'≤1073741824):
  Calls Tryz.prog 34 #[.pointer (some ⟨B,0,none⟩),opV o] w fun e w'=>e = .returned (.bool true)∧Done base B M' w w':=by
 rcases Nat.eq_zero_or_pos σ.wr.length with h1 | h1
 ·exact used_6n h o hk (by omega) hM2 h1
 ·exact used_6s h o hok hk hM hM2 h1
theorem used_7 {T:Tags} {base B M M':Nat} {σ:Sig} {w:World} (h:Inv T base B M σ w) (o:OpR) (hok:o.ok) (hk:o.kind=7) (hM:M<M') (hM2:M'≤1073741824):
  Calls Tryz.prog 34 #[.pointer (some ⟨B,0,none⟩),opV o] w fun e w'=>e = .returned (.bool true)∧Done base B M' w w':=by
 rcases Nat.eq_zero_or_pos σ.wr.length with h1 | h1
 ·exact used_7n h o hk hM hM2 h1
 ·exact used_7s h o hok hk hM hM2 h1
set_option maxRecDepth 100000 in
set_option maxHeartbeats 800000 in
theorem drive_5 {base B:Nat} (o:OpR) (hok:o.ok) (hk:o.kind=5):Step 12 base B o:=by
 intro T M M' σ w h hM hM2
 have z1:(o.kind==1)=false:=beq_eq_false_iff_ne.2 (by rw[hk];decide)
 have z2:(o.kind==2)=false:=beq_eq_false_iff_ne.2 (by rw[hk];decide)
 have z3:(o.kind==3)=false:=beq_eq_false_iff_ne.2 (by rw[hk];decide)
 have z8:(o.kind==8)=false:=beq_eq_false_iff_ne.2 (by rw[hk];decide)
 have z9:(o.kind==9)=false:=beq_eq_false_iff_ne.2 (by rw[hk];decide)
 have z5:(o.kind==5)=true:=beq_iff_eq.2 hk
 have hn:o.kind ∉ [17,4,24,25,18,19,20,21,22,23]:=by rw[hk];decide
 have hlt:w.heap.size<(w.alloc (.cells #[.int .i64 o.kind,.int .i64 o.a,.int .i64 o.b,.int .i64 o.c,.string o.s,.string o.t] 28)).heap.size:=by simp
 have hbx:Blk (w.alloc (.cells #[.int .i64 o.kind,.int .i64 o.a,.int .i64 o.b,.int .i64 o.c,.string o.s,.string o.t] 28)) w.heap.size 28 o.cells:=Blk.new rfl rfl
 have hS:Std base B (M+o.s.size+o.t.size) σ w (w.alloc (.cells #[.int .i64 o.kind,.int .i64 o.a,.int .i64 o.b,.int .i64 o.c,.string o.s,.string o.t] 28)):=(Std.alloc ⟨⟨T,h⟩,Below.refl _ _⟩ _).more (by omega) (by omega)
 have HS:=hide hS
 have HK:=hide hk
 have HN:=hide hn
 have HX:=hide hbx
 clear hS h hk hn hbx
 unfold opV
 go_enter Tryz.func12,Tryz.ntmps12
 go_wp2_with fail
 obtain ⟨⟨T9,hI9⟩,hB9⟩:=HS.out
 refine (owner_other hI9 o hok HN.out (by omega)).mono ?_
 rintro e w2 ⟨rfl,⟨T2,hI2⟩,hb2⟩
 have hx2:=HX.out.below hb2 hlt
 have e0:=hx2.cell (i:=0) (v:=.int .i64 o.kind) rfl
 have e1:=hx2.cell (i:=1) (v:=.int .i64 o.a) rfl
 have e2:=hx2.cell (i:=2) (v:=.int .i64 o.b) rfl
 have e3:=hx2.cell (i:=3) (v:=.int .i64 o.c) rfl
 have e4:=hx2.cell (i:=4) (v:=.string o.s) rfl
 have e5:=hx2.cell (i:=5) (v:=.string o.t) rfl
 have HI2:=hide hI2
 have HB2:=hide (hB9.trans (hb2.mono hI9.bsz))
 clear hI2 hb2 hI9 hB9 HS HX hx2
 generalize w.heap.size=sb at *
 go_wp2_with fail
 refine (made_5 HI2.out o hok HK.out (by omega) hM hM2).mono ?_
 rintro e w5 ⟨rfl,hd⟩
 have HD:=hide (Done.from HB2.out hd)
 clear hd HI2 HB2 e0 e1 e2 e3 e4 e5
 go_wp2
 go_ret
 exact ⟨rfl,HD.out⟩
set_option maxRecDepth 100000 in
set_option maxHeartbeats 800000 in
theorem drive_6 {base B:Nat} (o:OpR) (hok:o.ok) (hk:o.kind=6):Step 12 base B o:=by
 intro T M M' σ w h hM hM2
 have z1:(o.kind==1)=false:=beq_eq_false_iff_ne.2 (by rw[hk];decide)
 have z2:(o.kind==2)=false:=beq_eq_false_iff_ne.2 (by rw[hk];decide)
 have z3:(o.kind==3)=false:=beq_eq_false_iff_ne.2 (by rw[hk];decide)
 have z8:(o.kind==8)=false:=beq_eq_false_iff_ne.2 (by rw[hk];decide)
 have z9:(o.kind==9)=false:=beq_eq_false_iff_ne.2 (by rw[hk];decide)
 have z5:(o.kind==5)=false:=beq_eq_false_iff_ne.2 (by rw[hk];decide)
 have z10:(o.kind==10)=false:=beq_eq_false_iff_ne.2 (by rw[hk];decide)
 have z12:(o.kind==12)=false:=beq_eq_false_iff_ne.2 (by rw[hk];decide)
 have z6:(o.kind==6)=true:=beq_iff_eq.2 hk
 have hn:o.kind ∉ [17,4,24,25,18,19,20,21,22,23]:=by rw[hk];decide
 have hlt:w.heap.size<(w.alloc (.cells #[.int .i64 o.kind,.int .i64 o.a,.int .i64 o.b,.int .i64 o.c,.string o.s,.string o.t] 28)).heap.size:=by simp
 have hbx:Blk (w.alloc (.cells #[.int .i64 o.kind,.int .i64 o.a,.int .i64 o.b,.int .i64 o.c,.string o.s,.string o.t] 28)) w.heap.size 28 o.cells:=Blk.new rfl rfl
 have hS:Std base B (M+o.s.size+o.t.size) σ w (w.alloc (.cells #[.int .i64 o.kind,.int .i64 o.a,.int .i64 o.b,.int .i64 o.c,.string o.s,.string o.t] 28)):=(Std.alloc ⟨⟨T,h⟩,Below.refl _ _⟩ _).more (by omega) (by omega)
 have HS:=hide hS
 have H0:=hide h
 have HK:=hide hk
 have HN:=hide hn
 have HX:=hide hbx
 clear hS h hk hn hbx
 unfold opV
 go_enter Tryz.func12,Tryz.ntmps12
 go_wp2_with fail
 obtain ⟨⟨T9,hI9⟩,hB9⟩:=HS.out
 refine (owner_other hI9 o hok HN.out (by omega)).mono ?_
 rintro e w2 ⟨rfl,⟨T2,hI2⟩,hb2⟩
 have HI6:=hide (H0.out.below (((Below.refl _ _).alloc (Nat.le_refl _) _).trans (hb2.mono (by simp))))
 have hx2:=HX.out.below hb2 hlt
 have e0:=hx2.cell (i:=0) (v:=.int .i64 o.kind) rfl
 have e1:=hx2.cell (i:=1) (v:=.int .i64 o.a) rfl
 have e2:=hx2.cell (i:=2) (v:=.int .i64 o.b) rfl
 have e3:=hx2.cell (i:=3) (v:=.int .i64 o.c) rfl
 have e4:=hx2.cell (i:=4) (v:=.string o.s) rfl
 have e5:=hx2.cell (i:=5) (v:=.string o.t) rfl
 have HI2:=hide hI2
 have HB2:=hide (hB9.trans (hb2.mono hI9.bsz))
 clear hI2 hb2 hI9 hB9 HS HX hx2
 generalize w.heap.size=sb at *
 go_wp2_with fail
 refine (used_6 HI6.out o hok HK.out (by omega) hM2).mono ?_
 rintro e w5 ⟨rfl,hd⟩
 have HD:=hide (Done.from HB2.out hd)
 clear hd HI2 HI6 H0 HB2 e0 e1 e2 e3 e4 e5
 go_wp2
 go_ret
 exact ⟨rfl,HD.out⟩
set_option maxRecDepth 100000 in
set_option maxHeartbeats 800000 in
theorem drive_7 {base B:Nat} (o:OpR) (hok:o.ok) (hk:o.kind=7):Step 12 base B o:=by
 intro T M M' σ w h hM hM2
 have z1:(o.kind==1)=false:=beq_eq_false_iff_ne.2 (by rw[hk];decide)
 have z2:(o.kind==2)=false:=beq_eq_false_iff_ne.2 (by rw[hk];decide)
 have z3:(o.kind==3)=false:=beq_eq_false_iff_ne.2 (by rw[hk];decide)
 have z8:(o.kind==8)=false:=beq_eq_false_iff_ne.2 (by rw[hk];decide)
 have z9:(o.kind==9)=false:=beq_eq_false_iff_ne.2 (by rw[hk];decide)
 have z5:(o.kind==5)=false:=beq_eq_false_iff_ne.2 (by rw[hk];decide)
 have z10:(o.kind==10)=false:=beq_eq_false_iff_ne.2 (by rw[hk];decide)
 have z12:(o.kind==12)=false:=beq_eq_false_iff_ne.2 (by rw[hk];decide)
 have z6:(o.kind==6)=false:=beq_eq_false_iff_ne.2 (by rw[hk];decide)
 have z7:(o.kind==7)=true:=beq_iff_eq.2 hk
 have hn:o.kind ∉ [17,4,24,25,18,19,20,21,22,23]:=by rw[hk];decide
 have hlt:w.heap.size<(w.alloc (.cells #[.int .i64 o.kind,.int .i64 o.a,.int .i64 o.b,.int .i64 o.c,.string o.s,.string o.t] 28)).heap.size:=by simp
 have hbx:Blk (w.alloc (.cells #[.int .i64 o.kind,.int .i64 o.a,.int .i64 o.b,.int .i64 o.c,.string o.s,.string o.t] 28)) w.heap.size 28 o.cells:=Blk.new rfl rfl
 have hS:Std base B (M+o.s.size+o.t.size) σ w (w.alloc (.cells #[.int .i64 o.kind,.int .i64 o.a,.int .i64 o.b,.int .i64 o.c,.string o.s,.string o.t] 28)):=(Std.alloc ⟨⟨T,h⟩,Below.refl _ _⟩ _).more (by omega) (by omega)
 have HS:=hide hS
 have HK:=hide hk
 have HN:=hide hn
 have HX:=hide hbx
 clear hS h hk hn hbx
 unfold opV
 go_enter Tryz.func12,Tryz.ntmps12
 go_wp2_with fail
 obtain ⟨⟨T9,hI9⟩,hB9⟩:=HS.out
 refine (owner_other hI9 o hok HN.out (by omega)).mono ?_
 rintro e w2 ⟨rfl,⟨T2,hI2⟩,hb2⟩
 have hx2:=HX.out.below hb2 hlt
 have e0:=hx2.cell (i:=0) (v:=.int .i64 o.kind) rfl
 have e1:=hx2.cell (i:=1) (v:=.int .i64 o.a) rfl
 have e2:=hx2.cell (i:=2) (v:=.int .i64 o.b) rfl
 have e3:=hx2.cell (i:=3) (v:=.int .i64 o.c) rfl
 have e4:=hx2.cell (i:=4) (v:=.string o.s) rfl
 have e5:=hx2.cell (i:=5) (v:=.string o.t) rfl
 have HI2:=hide hI2
 have HB2:=hide (hB9.trans (hb2.mono hI9.bsz))
 clear hI2 hb2 hI9 hB9 HS HX hx2
 generalize w.heap.size=sb at *
 go_wp2_with fail
 refine (used_7 HI2.out o hok HK.out hM hM2).mono ?_
 rintro e w5 ⟨rfl,hd⟩
 have HD:=hide (Done.from HB2.out hd)
 clear hd HI2 HB2 e0 e1 e2 e3 e4 e5
 go_wp2
 go_ret
 exact ⟨rfl,HD.out⟩
set_option maxRecDepth 100000 in
set_option maxHeartbeats 800000 in
theorem drive_15 {base B:Nat} (o:OpR) (hok:o.ok) (hk:o.kind=15):Step 12 base B o:=by
 intro T M M' σ w h hM hM2
 have z1:(o.kind==1)=false:=beq_eq_false_iff_ne.2 (by rw[hk];decide)
 have z2:(o.kind==2)=false:=beq_eq_false_iff_ne.2 (by rw[hk];decide)
 have z3:(o.kind==3)=false:=beq_eq_false_iff_ne.2 (by rw[hk];decide)
 have z8:(o.kind==8)=false:=beq_eq_false_iff_ne.2 (by rw[hk];decide)
 have z9:(o.kind==9)=false:=beq_eq_false_iff_ne.2 (by rw[hk];decide)
 have z5:(o.kind==5)=false:=beq_eq_false_iff_ne.2 (by rw[hk];decide)
 have z10:(o.kind==10)=false:=beq_eq_false_iff_ne.2 (by rw[hk];decide)
 have z12:(o.kind==12)=false:=beq_eq_false_iff_ne.2 (by rw[hk];decide)
 have z6:(o.kind==6)=false:=beq_eq_false_iff_ne.2 (by rw[hk];decide)
 have z7:(o.kind==7)=false:=beq_eq_false_iff_ne.2 (by rw[hk];decide)
 have z11:(o.kind==11)=false:=beq_eq_false_iff_ne.2 (by rw[hk];decide)
 have z13:(o.kind==13)=false:=beq_eq_false_iff_ne.2 (by rw[hk];decide)
 have z14:(o.kind==14)=false:=beq_eq_false_iff_ne.2 (by rw[hk];decide)
 have z15:(o.kind==15)=true:=beq_iff_eq.2 hk
 have hn:o.kind ∉ [17,4,24,25,18,19,20,21,22,23]:=by rw[hk];decide
 have hlt:w.heap.size<(w.alloc (.cells #[.int .i64 o.kind,.int .i64 o.a,.int .i64 o.b,.int .i64 o.c,.string o.s,.string o.t] 28)).heap.size:=by simp
 have hbx:Blk (w.alloc (.cells #[.int .i64 o.kind,.int .i64 o.a,.int .i64 o.b,.int .i64 o.c,.string o.s,.string o.t] 28)) w.heap.size 28 o.cells:=Blk.new rfl rfl
 have hS:Std base B (M+o.s.size+o.t.size) σ w (w.alloc (.cells #[.int .i64 o.kind,.int .i64 o.a,.int .i64 o.b,.int .i64 o.c,.string o.s,.string o.t] 28)):=(Std.alloc ⟨⟨T,h⟩,Below.refl _ _⟩ _).more (by omega) (by omega)
 have HS:=hide hS
 have HK:=hide hk
 have HN:=hide hn
 have HX:=hide hbx
 clear hS h hk hn hbx
 unfold opV
 go_enter Tryz.func12,Tryz.ntmps12
 go_wp2_with fail
 obtain ⟨⟨T9,hI9⟩,hB9⟩:=HS.out
 refine (owner_other hI9 o hok HN.out (by omega)).mono ?_
 rintro e w2 ⟨rfl,⟨T2,hI2⟩,hb2⟩
 have hx2:=HX.out.below hb2 hlt
 have e0:=hx2.cell (i:=0) (v:=.int .i64 o.kind) rfl
 have e1:=hx2.cell (i:=1) (v:=.int .i64 o.a) rfl
 have e2:=hx2.cell (i:=2) (v:=.int .i64 o.b) rfl
 have e3:=hx2.cell (i:=3) (v:=.int .i64 o.c) rfl
 have e4:=hx2.cell (i:=4) (v:=.string o.s) rfl
 have e5:=hx2.cell (i:=5) (v:=.string o.t) rfl
 have HI2:=hide hI2
 have HB2:=hide (hB9.trans (hb2.mono hI9.bsz))
 clear hI2 hb2 hI9 hB9 HS HX hx2
 generalize w.heap.size=sb at *
 go_wp2_with fail
 refine (whole_15 HI2.out o hok HK.out (by omega) hM hM2).mono ?_
 rintro e w5 ⟨rfl,hd⟩
 have HD:=hide (Done.from HB2.out hd)
 clear hd HI2 HB2 e0 e1 e2 e3 e4 e5
 go_wp2
 go_ret
 exact ⟨rfl,HD.out⟩
end Go.Proofs.YtmjekklgefdolaaGreatDoor
namespace Go.Proofs.YtmjekklgefdolaaGreatDoor
open Go.ChangeShapes Go.WideShapes Go.ChangeAt Go.RowKit Go.Deep
def writesKinds:List Int:=[5,6,7,15]
set_option maxRecDepth 100000 in
set_option maxHeartbeats 800000 in
theorem writes_any (v:Value) (l:List OpR) (w:World) (hv:Script w v l) (hk:KTab w) (hh:HTab w) (h2:2≤w.heap.size) (hok:∀ p ∈ l,p.ok) (hl:l.length≤1152921504606846976):
  Calls Tryz.prog 3 #[v] w fun e w'=>e = .returned (.bool true)∧Below w.heap.size w w':=by
 have hb:Below w.heap.size w (w.alloc (.cells (intV writesKinds).toArray 3)):=(Below.refl _ _).alloc (Nat.le_refl _) _
 have HPL:=hide (plays_any v l writesKinds w.heap.size (w.alloc (.cells (intV writesKinds).toArray 3)) (hv.alloc _) (Kinds.new _ _) (by decide) (hk.below hb h2) (hh.below hb h2) (Nat.le_trans h2 hb.size) hok hl
  (fun b o ho hkp h50=>by
   have h:=kept_call hkp (by omega)
   simp[writesKinds] at h
   omega)
  (fun b o ho hkp h30 h50=>by
   have h:=kept_call hkp h30
   simp[writesKinds] at h
   omega)
  (fun b o ho hkp h30=>by
   rcases Bool.or_eq_true_iff.1 hkp with h0 | h0
   ·exact own_steps [] (by simp) b o ho (Bool.or_eq_true_iff.2 (.inl h0)) h30
   ·have h:o.kind ∈ writesKinds:=by simpa using h0
    simp[writesKinds] at h
    rcases h with h | h | h | h
    ·exact drive_5 o ho h
    ·exact drive_6 o ho h
    ·exact drive_7 o ho h
    ·exact drive_15 o ho h))
 have HB:=hide hb
 clear hv hk hh h2 hok hl hb
 go_enter Tryz.func3,Tryz.ntmps3
 go_wp2_with fail
 refine HPL.out.mono ?_
 rintro e w' ⟨rfl,hb'⟩
 have HF:=hide (HB.out.trans (hb'.mono HB.out.size))
 clear hb'
 go_wp2
 go_ret
 exact ⟨rfl,HF.out⟩
set_option maxRecDepth 100000 in
theorem writes_contract (H:Type) (enc:TypeId × Value→H) (W:World) (base:Nat) (args:Array Value) (ds gs:List (DataW H)) (before:List MemPlace)
  (hval:∀ (j:Nat) t v,Tryz.f3.params[j]? = some t→args[j]? = some v→Value.okWide Tryz.prog W .any base t v)
  (hW:DataW.Whole enc Tryz.prog Tryz.f3.params.toList Rows.writesSpec.vars false W args.toList ds gs before)
  (hz:∀ n ∈ DataW.weightsEach Tryz.prog Tryz.f3.params.toList (ds++gs),n≤reachBytes) (hL:laidMetH Tryz.prog Rows.writesRow.laid W):
  Calls Tryz.prog 3 args W fun e W'=>∃ v,e = .returned v∧Rows.writesSpec.post enc Tryz.prog Tryz.f3 false true false false W args v W':=by
 have hW':=hW
 obtain ⟨p,q,hA0,hV,rfl,hfz,hnd⟩:=hW
 have hA:DataW.TrodAll enc Tryz.prog W 0 (fun _=>true) true Tryz.f3.params.toList args.toList ds p:=hA0
 rw[Tryz.params3] at hA hval hz
 obtain ⟨v0,d0,rfl,rfl,h0⟩:=trodAll_one hA
 obtain ⟨rfl,rfl⟩:=trodVars_none hV
 obtain ⟨a0,len,cap,rfl⟩:=okWide_slice Tryz.underlying22 (hval 0 22 v0 rfl rfl)
 clear hA0 hfz hnd
 simp only[List.append_nil] at hW'
 have hlt:∀ x ∈ p,x.block<W.heap.size:=fun x hx=>by simpa using hW'.lt x hx
 obtain ⟨l,hS,hok,hl⟩:=open_script h0 (fun n hn=>hz n (DataW.weights_mem_each (j:=0) rfl rfl n hn))
 obtain ⟨hh,hk⟩:=tabs2 hL
 have h2:2≤W.heap.size:=World.block_lt_of_cell? W _ (hk 0 (by decide))
 refine (writes_any _ l W hS hk hh h2 hok hl).mono fun e W' ⟨he,hb⟩=>?_
 subst he
 refine ⟨_,rfl,_,_,_,[],p,[],hW',?_,trodAll_mk1 (Below.trod laidOut (by kernel_rfl) (of_decide_eq_true (by kernel_rfl)) h0 hb hlt),rfl,hb.frame _,fun h=>by cases h⟩
 exact trodAll_mk1 (shut_bool Tryz.underlying4 _)
theorem writes_laid_met (os:Os):laidMet Tryz.prog Rows.writesRow.laid ((laidWorld Tryz.prog os).forCall (fun _ _=>0) ⟨#[],#[.slice none 0 0],[]⟩).memory:=
 laidMet_of_run' 8 (by kernel_rfl) (by kernel_rfl)
theorem writes_reads (os:Os) {H:Type} (enc:TypeId × Value→H):∃ places,DataW.whole enc Tryz.prog ((laidWorld Tryz.prog os).forCall (fun _ _=>0) ⟨#[],#[.slice none 0 0],[]⟩).memory Tryz.f3.params.toList Rows.writesSpec.vars false #[Value.slice none 0 0].toList 8=some ([.nil],[],places):=
 ⟨[],by kernel_rfl⟩
set_option maxRecDepth 100000 in
theorem writes_lifted (os:Os) (started:os.Started) (H:Type) (enc:TypeId × Value→H) (F:Stop.Interp):
  ReturnsInHanded {} Tryz.checked os 3 .any ((OpenSpec.ofChange Rows.writesSpec).preRow enc Tryz.prog Tryz.f3 Rows.writesRow.domain false Rows.writesRow.laid) (((OpenSpec.ofChange Rows.writesSpec).at F).post enc Tryz.prog Tryz.f3 false true false false):=by
 obtain ⟨places,hx⟩:=writes_reads os enc
 refine returnsInHanded_of_row (C:=Tryz.checked) (s:=OpenSpec.ofChange Rows.writesSpec) own started (by kernel_rfl) Tryz.func3
  (witness_row_at (enc:=enc) (C:=Tryz.checked) false (laidWorld Tryz.prog os) #[.slice none 0 0] rfl (by kernel_rfl) (by kernel_rfl) (by kernel_rfl)
   (OpenSpec.preRow_of_cond 8 hx (by kernel_rfl) (fun k hk=>by cases hk) (by kernel_rfl) (writes_laid_met os))) ?_
 intro W base args ds gs before hval hW _ _ hz hL _ _
 have hz':∀ n ∈ DataW.weightsEach Tryz.prog Tryz.f3.params.toList (ds++gs),n≤reachBytes:=by
  have hz2:(DataW.weightsEach Tryz.prog Tryz.f3.params.toList (ds++gs)).all (·≤reachBytes)=true:=hz
  intro n hn
  simpa using List.all_eq_true.1 hz2 n hn
 exact writes_contract H enc W base args ds gs before hval hW hz' hL
theorem writes_j1:Tryz.prog.inPlace 3=Rows.writesRow.inPlace:=by kernel_rfl
theorem writes_j2:Tryz.prog.unfollowed 3=Rows.writesRow.unfollowed:=by kernel_rfl
theorem writes_j3:Tryz.prog.recurses 3=Rows.writesRow.recurses:=by kernel_rfl
theorem writes_j4:Tryz.prog.varsNamed 3=Rows.writesRow.named:=by kernel_rfl
theorem writes_j:joinedFacts Tryz.prog 3 Tryz.f3 (OpenSpec.ofChange Rows.writesSpec).bare Rows.writesRow=true:=by
 unfold joinedFacts
 rw[writes_j1,writes_j2,writes_j3,writes_j4]
 kernel_rfl
theorem writes_said:Rows.WritesSaid:=
 OpenClaim.holds_of_cond 3 Tryz.f3 rfl rfl rfl rfl rfl rfl rfl ⟨rfl,rfl,rfl,rfl,rfl⟩ rfl rfl rfl rfl rfl (by kernel_rfl) Tryz.func3 writes_j
  (of_decide_eq_true (by kernel_rfl)) (by unfold Func.isWrapper;first | (rw[if_pos (by decide +kernel)];kernel_rfl) | (rw[if_neg (by decide +kernel)];exact ⟨rfl,rfl⟩))
  (fun os started H enc _ F=>by rw[OpenClaim.pre_eq_preRow];exact writes_lifted os started H enc F)
theorem writes_plain (f : FuncId) (fn : Func) (hf : Tryz.pinned.checked.prog.funcNamed "strongbox/strongboxlaw.Writes" = some f) (hfn : Tryz.pinned.checked.prog.funcs[f]? = some fn) :
  false = Tryz.pinned.checked.prog.looks []∧∀ (j:Nat) t,fn.params[j]? = some t→Tryz.pinned.checked.prog.wantsStandIn t=false:=by
 obtain rfl : f = 3 := Option.some.inj ((show Tryz.prog.funcNamed "strongbox/strongboxlaw.Writes" = some 3 by kernel_rfl).symm.trans hf) |>.symm
 obtain rfl:fn = Tryz.f3:=(Option.some.inj (Tryz.func3.symm.trans hfn)).symm
 refine ⟨by kernel_rfl,fun j t ht=>?_⟩
 rw[Tryz.params3] at ht
 obtain rfl:t=22:=by simpa using Array.mem_of_getElem? ht
 exact (show Tryz.prog.wantsStandIn 22=false by kernel_rfl)
theorem writes_card:Rows.WritesCardSaid:=
 Claim7.holds_tied_plain_at .later [] _ _ _ _ writes_said (fun _ h=>by cases h) (by kernel_rfl) (fun _ h=>by cases h) writes_row_tie rfl ⟨rfl,rfl⟩ (by kernel_rfl) rfl writes_plain (by kernel_rfl)
end Go.Proofs.YtmjekklgefdolaaGreatDoor
