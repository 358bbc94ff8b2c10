import Derived.Deep.Cut
import Derived.Test.YtoifalcpfnacnaaGreatDoorRows
import Derived.Test.YtoifalcpfnacnaaGreatDoorCards
import Derived.Test.YtoifalcpfnacnaaGreatDoorTie
import Derived.ProofKit
import Derived.OpenShut
import Derived.Deep.Slices
import Derived.Deep.DeepHandedRow
import Derived.Lib.LaidTab
import Derived.SizedLaws
import Derived.Stop.LaidErr
import Derived.Carry
import Derived.ChangeSame
import Derived.Test.YtoifalcpfnacnaaGreatDoorBa11
namespace Go.Proofs.YtoifalcpfnacnaaGreatDoor
open Go.RowKit
theorem Strs.chg {S:Nat→Prop} {w w':World} {v:Value} {l:List ByteArray} (h:Strs w v l) (hC:Chg S w w') (hb:∀ g o n c,v = .slice (some ⟨g,o,none⟩) n c→0<l.length→¬ S g):Strs w' v l:=by
 have hlt:=h.blt
 rcases h with h | ⟨g,o,c,rfl,hc⟩
 ·exact .inl h
 ·refine .inr ⟨g,o,c,rfl,fun i x hx=>?_⟩
  have hl:0<l.length:=Nat.lt_of_le_of_lt (Nat.zero_le i) (List.getElem?_eq_some_iff.1 hx).1
  have h1:=hC.block g (hlt g o _ c rfl hl) (hb g o _ c rfl hl)
  have h2:=hc i x hx
  unfold World.cell? at h2 ⊢
  rw[h1]
  exact h2
theorem FlS.chg {S:Nat→Prop} {w:World} {v:Value} {l:List ByteArray} {wi wj:World} (h:FlS w v l wi) (hC:Chg S wi wj) (hS:∀ k,S k→w.heap.size≤k) (hv:∀ g o n c,v = .slice (some ⟨g,o,none⟩) n c→0<l.length→¬ S g):FlS w v l wj:=
 ⟨h.two,hC.tabs h.tabs (fun e=>by have:=hS 0 e;have:=h.two;omega) (fun e=>by have:=hS 1 e;have:=h.two;omega),h.strs.chg hC hv,h.be.trans ⟨hC.os,hC.tape,hC.output,hC.size,fun k hk=>hC.block k (Nat.lt_of_lt_of_le hk h.be.size) (fun e=>by have:=hS k e;omega)⟩⟩
def restB:ByteArray:=⟨#[114,101,115,116]⟩
def MadeP (text:ByteArray) (w:World) (e:Ending) (w':World):Prop:=∃ fb v vb l d,e = .returned (.tuple #[.pointer (some ⟨fb,0,none⟩),.bool true])∧w.heap.size≤fb∧1≤l.length∧l.length≤3∧(∀ m ∈ l,m.size=32)∧d.size=16*(l.length+2)∧FileR fb v vb l d text (fileB l d text) (Ref.head l d 0) (Ref.pkey l d 0) w'∧Below w.heap.size w w'∧Tabs w'
theorem made_start {l:List ByteArray} {d:ByteArray} (text:ByteArray) (hd:d.size=16*(l.length+2)) (h1:1≤l.length) (h3:l.length≤3) (hm:∀ m ∈ l,m.size=32) {wb sk g:Nat} {w:World} (hR:WRep wb sk g (Ref.pkey l (d++restB) 0) ⟨0,[],Ref.newK l (d++restB) 0 ⟨⟨#[]⟩,[],0⟩⟩ w):
  OkN wb sk g (Ref.pkey l d 0) text ((Ref.head l d 0).data.toList++(Ref.pdraw l d 0).data.toList) 0 w:=by
 have hz:(d++restB).size=d.size+4:=ba_sz _ _
 have hE:Ref.beginE l (d++restB) 0=0:=Ref.begin_good h1 h3 hm (by omega)
 obtain ⟨f1,f2,f3,f4,f5⟩:=file_left l d restB hd text.data.toList
 have hok:∀ (k:Snk) t,k.plan=[]→k.ok t=true:=fun k t h=>Snk.ok_nil h t
 have hne:Ref.newE l (d++restB) 0 ⟨⟨#[]⟩,[],0⟩=0:=by
  rw[Ref.newE_eq hE,if_neg (by rw[hok _ _ rfl];simp)]
  unfold Snk.err
  rw[hok _ _ rfl]
  rfl
 have hG:=Ref.new_good hE (k:=⟨⟨#[]⟩,[],0⟩) rfl text.data.toList hne
 obtain ⟨r1,r2,r3⟩:=Ref.new_room (k:=⟨⟨#[]⟩,[],0⟩) hE rfl rfl
 rw[f2,f3,f4] at hG
 rw[f3] at hR
 exact ⟨_,hR,hG,Nat.zero_le _,r1,r2,r3⟩
theorem made_zero {l:List ByteArray} {d:ByteArray} (hd:d.size=16*(l.length+2)) (h1:1≤l.length) (h3:l.length≤3) (hm:∀ m ∈ l,m.size=32):Ref.newE l (d++restB) 0 ⟨⟨#[]⟩,[],0⟩=0∧Ref.beginP l (d++restB) 0=d.size:=by
 have hz:(d++restB).size=d.size+4:=ba_sz _ _
 have hE:Ref.beginE l (d++restB) 0=0:=Ref.begin_good h1 h3 hm (by omega)
 have hok:∀ (k:Snk) t,k.plan=[]→k.ok t=true:=fun k t h=>Snk.ok_nil h t
 have hc:Ref.chkM l=0:=by
  unfold Ref.beginE at hE
  by_cases hc:Ref.chkM l=0
  ·exact hc
  ·rw[if_pos hc] at hE;exact absurd hE hc
 refine ⟨?_,?_⟩
 ·rw[Ref.newE_eq hE,if_neg (by rw[hok _ _ rfl];simp)]
  unfold Snk.err
  rw[hok _ _ rfl]
  rfl
 ·unfold Ref.beginP canDraw
  rw[if_neg (by rw[hc];simp),hz]
  omega
set_option maxRecDepth 100000 in
set_option maxHeartbeats 3200000 in
theorem made_any (text who:ByteArray) (turn c:Int) (w:World) (ht:Tabs w) (hx:text.size≤268435456) (hw:who.size≤9223372036854775807) (t1 : -9223372036854775808≤turn) (t2:turn≤9223372036854775807) (c1 : -9223372036854775808≤c) (c2:c≤9223372036854775807):
  Calls Tryz.prog 7 #[.string text,.string who,.int .i64 turn,.int .i64 c] w (MadeP text w):=by
 have HMS:=hide (masters_any who w hw)
 have HDR:=hide (fun n w hn=>draws_any c n w c1 c2 hn)
 have HX:=hide hx
 have HT:=hide ht
 have HTR:=hide (And.intro t1 t2)
 clear ht hx hw t1 t2 c1 c2
 go_enter Tryz.func7,Tryz.ntmps7
 go_wp2_with fail
 refine HMS.out.mono ?_
 rintro e w1 ⟨v,rfl,l,hr,_,h1,h3,hm,hb1⟩
 have F1:=hide (show FlS w v l w1 from ⟨HT.out.two,HT.out.after hb1,Row.strs hr,hb1⟩)
 have HM:=hide (And.intro h1 (And.intro h3 hm))
 obtain ⟨ao,cap,rfl,hd1,hd2⟩:=Row.anyN hr
 clear hr hb1 hm HMS HT hd1 hd2
 obtain ⟨n,hn⟩:∃ n:Nat,l.length=n:=⟨_,rfl⟩
 rw[hn] at F1 h1 h3
 rw[hn]
 have HNN:=hide hn
 clear hn
 obtain ⟨n2,hn2⟩:∃ x:Nat,n+2=x:=⟨_,rfl⟩
 have tn:(n:Int)+2=(n2:Int):=by omega
 have HD1:=hide (HDR.out n2 w1 (by omega))
 have HN2:=hide hn2
 have n2b:n2≤5:=by omega
 clear HDR hn2
 go_wp2_with fail
 refine HD1.out.mono ?_
 rintro e w2 ⟨d,hds,rfl,hb2⟩
 have F2:=hide (F1.out.after hb2)
 have HDS:=hide (show d.size=16*(l.length+2) by rw[hds,←HN2.out,HNN.out])
 have hdz:d.size≤80:=by omega
 have u1:¬ (9223372036854775807<d.size+4):=by omega
 clear hb2 F1 HD1 hds tn
 obtain ⟨dr,hdr⟩:∃ x,d++(⟨#[114,101,115,116]⟩:ByteArray)=x:=⟨_,rfl⟩
 have hdrz:dr.size=d.size+4:=by rw[←hdr];exact ba_sz _ _
 have HDR:=hide (show d++restB=dr from hdr)
 go_wp2_with fail
 refine (springOf_any dr _).mono ?_
 rintro e w3 ⟨rfl,hB3,hb3⟩
 have F3:=hide (F2.out.after hb3)
 have HB3:=hide (show Blk w3 w2.heap.size 94 (springCells dr 0) from hB3)
 have A3:=hide (F2.out.apart (Nat.le_refl _))
 have hge2:=F2.out.be.size
 have hl3:=hB3.lt
 clear hb3 hB3 hdr
 go_wp2_with fail
 refine (sinkOf_nil _).mono ?_
 rintro e w4 ⟨sk,rfl,hsk,hG4,hS4,hb4⟩
 have F4:=hide (F3.out.after hb4)
 have HB4:=hide (HB3.out.below hb4 HB3.out.lt)
 have hl4:=hS4.lt
 have HNW:=hide (newWriter_any _ l w2.heap.size dr 0 sk w3.heap.size ⟨⟨#[]⟩,[],0⟩ w4 F4.out.tabs F4.out.strs A3.out (by rw[HNN.out];omega) HB4.out (Nat.le_trans F2.out.two F2.out.be.size) (Nat.zero_le _) (by omega) hS4 hG4 (by omega) (by omega) (by omega) (by show 0+3000<_;decide) (by show 0+10<_;decide))
 have hG4':=hG4
 have hMZ:=made_zero HDS.out HM.out.1 HM.out.2.1 HM.out.2.2
 rw[HDR.out] at hMZ
 have HG4:=hide hG4
 clear hb4 hS4 hG4 hG4' HB3 HB4 F3
 go_wp2_with fail
 refine HNW.out.mono ?_
 rintro e w5 ⟨pv,rfl,_,hn2,hS5,hB5,hC5⟩
 obtain ⟨wb,hwb,rfl,hWb⟩:=hn2 hMZ.1
 rw[hMZ.1]
 rw[hMZ.2] at hB5
 have hR5:WRep wb sk w3.heap.size (Ref.pkey l dr 0) ⟨0,[],Ref.newK l dr 0 ⟨⟨#[]⟩,[],0⟩⟩ w5:=by
  refine ⟨⟨nought 16,rfl,rfl,hWb⟩,Nat.zero_le _,hS5,?_⟩
  have h:=hC5.blk HG4.out (fun e=>by omega)
  have hE:Ref.beginE l dr 0=0:=Ref.begin_good HM.out.1 HM.out.2.1 HM.out.2.2 (by have:=HDS.out;omega)
  rw[(Ref.new_room (k:=⟨⟨#[]⟩,[],0⟩) hE rfl rfl).2.2]
  exact h
 rw[←HDR.out] at hR5
 have HO5:=hide (made_start text HDS.out HM.out.1 HM.out.2.1 HM.out.2.2 hR5)
 have F5:=hide (F4.out.chg hC5 (fun k hk=>by omega) (fun g o n c e hl=>by
  have:=A3.out g o n c e hl
  have:=F2.out.strs.blt g o n c e hl
  omega))
 have HB5:=hide hB5
 have hwl5:=hWb.lt
 clear hn2 hS5 hB5 hC5 hWb hR5 HNW HG4 F4
 have HWR:=hide (written_any wb sk w3.heap.size _ text _ turn w5 HO5.out (Ref.pkey_size _ _ _) HX.out HTR.out.1 HTR.out.2 (by omega) (by omega) (by omega))
 go_wp2_with fail
 refine HWR.out.mono ?_
 rintro e w6 ⟨rfl,⟨k6,hS6,hgot⟩,hC6⟩
 have F6:=hide (F5.out.chg hC6 (fun k hk=>by omega) (fun g o n c e hl=>by
  have:=F2.out.strs.blt g o n c e hl
  omega))
 have hB6:=hC6.blk HB5.out (fun e=>by omega)
 have x0:=hB6.cell (i:=0) rfl
 have x1:=hB6.cell (i:=1) rfl
 have hle:IntKind.i64.wrap ((dr.size:Int)-(d.size:Int))=4:=(IntWalk.i64_in _ (by omega)).trans (by omega)
 have HLF:=hide (springLeft_any w2.heap.size dr (d.size:Nat) w6 x0 x1)
 rw[hle] at HLF
 have hg2:k6.got=fileB l d text:=hgot
 have HGT:=hide (fun m=>sinkGot_any sk k6.got (w6.drewN m) ((Blk.drewN hS6 m).cell (i:=0) rfl))
 rw[hg2] at HGT
 have hsk6:w2.heap.size<w6.heap.size:=hB6.lt
 clear hS6 hgot hC6 HWR HO5 HB5 hB6 x0 x1 hle hg2 F5
 go_wp2_with fail
 refine HLF.out.mono ?_
 rintro e w7 ⟨rfl,m7,rfl⟩
 have F7:=hide (F6.out.after (below_drewN (Below.refl _ _) m7))
 have HG7:=hide (HGT.out m7)
 have hw7:w2.heap.size<(w6.drewN m7).heap.size:=hsk6
 generalize w6.drewN m7=w7 at *
 clear HLF HGT F6 hsk6
 have HFF:=hide (file_facts l d text HM.out.1 HM.out.2.1 HDS.out)
 have HKN:=hide (known_any _ l d text (fileB l d text) _ _ _ _ _ _ _ l.length w7 F7.out.tabs F7.out.strs HM.out.1 HM.out.2.1 HM.out.2.2 HDS.out HX.out HFF.out)
 have HEN:=hide (fun b (w':World) hf hb hge hv=>encrypt_any (.slice ao n cap) l b d 0 text w' (FlS.tabs (w:=w) hf) (FlS.strs hf) hv (by rw[HNN.out];omega) hb (Nat.le_trans F2.out.two hge) (Nat.zero_le _) (by omega) (by have:=HX.out;omega))
 have hE:Ref.beginE l d 0=0:=Ref.begin_good HM.out.1 HM.out.2.1 HM.out.2.2 (by have:=HDS.out;omega)
 have HE:=hide hE
 have HFB:=hide (show fileB l d text=⟨(Ref.file l d 0 text.data.toList).toArray⟩ from rfl)
 generalize fileB l d text=BF at *
 clear hE
 go_wp2_with fail
 refine HG7.out.mono ?_
 rintro e w8 ⟨rfl,rfl⟩
 clear HG7
 go_wp2_with fail
 refine HKN.out.mono ?_
 rintro e w9 ⟨vb,rfl,hR9,hb9⟩
 have F9:=hide (F7.out.after hb9)
 have R9:=hide hR9
 have hsz9:=hb9.size
 have hge7:=F7.out.be.size
 clear HKN hR9 hb9
 go_wp2_with fail
 refine (springOf_any d _).mono ?_
 rintro e w10 ⟨rfl,hB10,hb10⟩
 have F10:=hide (F9.out.after hb10)
 have R10:=hide (FileR.mk (R9.out.blk.below hb10 R9.out.blk.lt) (R9.out.ms.after hb10) (R9.out.bx.after hb10))
 have A10:=hide (F9.out.apart (Nat.le_refl _))
 have A11:=hide (fun g o n c (e:vb = .slice (some ⟨g,o,none⟩) n c) hl=>Nat.ne_of_lt (R9.out.bx.blt g o n c e hl))
 have hf9:=R9.out.blk.lt
 have HEC:=hide (HEN.out w9.heap.size w10 F10.out hB10 (by omega) A10.out)
 clear hb10 hB10 F9 R9 HEN
 go_wp2_with fail
 refine HEC.out.mono ?_
 rintro e w11 ⟨rfl,_,hG11⟩
 rw[HE.out,if_pos rfl,←HFB.out]
 have F11:=hide (F10.out.grown hG11 (by omega) A10.out)
 have R11:=hide (FileR.mk (R10.out.blk.grown hG11 (fun e=>by injection e with e;omega)) (R10.out.ms.grown hG11 A10.out) (R10.out.bx.grown hG11 A11.out))
 clear hG11 HEC F10 R10 A10 A11
 go_wp2
 refine bodyPost_ret (results_tmp2 rfl _ _ _) rfl ?_
 exact ⟨w8.heap.size,.slice ao n cap,vb,l,d,rfl,hge7,HM.out.1,HM.out.2.1,HM.out.2.2,HDS.out,by rw[HFB.out] at R11;exact R11.out,F11.out.be,F11.out.tabs⟩
set_option maxHeartbeats 400000 in
theorem read_zero (rb:Nat) (w:World):
  Calls Tryz.prog 30 #[.pointer (some ⟨rb,0,none⟩),.int .i64 0] w fun e w'=>e = .returned (.tuple #[.string ⟨#[]⟩,.int .i64 0])∧w'=w:=by
 go_enter Tryz.func30,Tryz.ntmps30
 go_wp2
 refine bodyPost_ret (results_tmp2 rfl _ _ _) rfl ?_
 exact ⟨rfl,rfl⟩
structure RdL (w:World) (fb:Nat) (fc:List Value) (rb bs g:Nat) (b KY text:ByteArray) (r:Ref.Rd) (j:Nat) (wi:World):Prop where
 file:Blk wi fb 27 fc
 rd:RdRep rb bs r wi
 src:SrcRep bs g r.x wi
 f:RdF b KY text r j
 nb:r.n+(r.x.s.size-r.x.at_)≤b.size
 be:Below w.heap.size w wi
def RdAns (w:World) (fb:Nat) (fc:List Value) (rb bs g:Nat) (b KY text:ByteArray) (j n:Nat) (e:Ending) (w':World):Prop:=
 (j<text.size∧∃ r q,0<q∧q≤n∧j+q≤text.size∧e = .returned (.tuple #[.string (text.extract j (j+q)),.int .i64 0])∧RdL w fb fc rb bs g b KY text r (j+q) w')∨(j=text.size∧e = .returned (.tuple #[.string ⟨#[]⟩,.int .i64 13])∧∃ r,RdL w fb fc rb bs g b KY text r j w')
theorem rdl_read {l:List ByteArray} {d text b H PD KY FK:ByteArray} {ss bs':List ByteArray} {mac:ByteArray} {m:Nat} (F:FileF l d text b H PD KY FK ss bs' mac m) {w:World} {fb:Nat} {fc:List Value} {rb bs g:Nat} {r:Ref.Rd} {j:Nat} {wi:World} (h:RdL w fb fc rb bs g b KY text r j wi) (n:Nat) (hn:0<n) (hn2:n≤1000) (hj:j≤text.size) (hb:b.size≤1099511627776) (hrb:rb≠bs) (hrg:rb≠g) (hfr:fb≠rb) (hfs:fb≠bs) (hwr:w.heap.size≤rb) (hws:w.heap.size≤bs):
  Calls Tryz.prog 30 #[.pointer (some ⟨rb,0,none⟩),.int .i64 (n:Nat)] wi (RdAns w fb fc rb bs g b KY text j n):=by
 have hnb:=h.nb
 refine (read_any rb bs g r n wi h.rd h.src hrb hrg (by omega) hn (by omega)).mono ?_
 rintro e w' ⟨r1,hf,rfl,hR,hS,hC⟩
 have htl:text.data.toList.length=text.size:=ba_len _
 obtain ⟨f1,f2,f3⟩:=F.fill h.f hj hf
 obtain ⟨m1,_,_,_,_,m6,_,_⟩:=hf.meas (fun e=>(h.rd.ok e).2) h.src.at_
 have hfile:Blk w' fb 27 fc:=hC.blk h.file (fun e=>by rcases e with e | e;exact hfr e;exact hfs e)
 have hbe:Below w.heap.size w w':=Chg.belowN hC h.be (Nat.le_refl _) (fun k hk=>by rcases hk with e | e <;> omega)
 have hnb1:r1.n+(r1.x.s.size-r1.x.at_)≤b.size:=by omega
 rcases Nat.eq_or_lt_of_le hj with e | e
 ·obtain ⟨t0,e13⟩:=f3 e
  have ha:r1.ans n=([],13):=by unfold Ref.Rd.ans;rw[if_pos t0,e13]
  refine .inr ⟨e,by rw[ha],r1.tell n,⟨hfile,hR,hS,?_,hnb1,hbe⟩⟩
  have:=f1.tell n
  rw[t0] at this
  simpa using this
 ·have t0:=f2 e
  have ha:r1.ans n=(r1.text.take n,0):=if_neg t0
  obtain ⟨q,hq⟩:=f1.pre
  have hp:=List.length_pos_iff.2 t0
  have hlen:(r1.text.take n).length=min n r1.text.length:=List.length_take
  have hle:r1.text.length≤text.size-j:=by rw[hq,List.length_take,List.length_drop,htl];omega
  have htk:r1.text.take n=(text.data.toList.drop j).take (r1.text.take n).length:=by
   conv=>lhs;rw[hq,List.take_take]
   rw[hq,List.take_take,List.length_take]
   rw[List.take_eq_take_min]
  refine .inl ⟨e,r1.tell n,(r1.text.take n).length,by omega,by omega,by omega,?_,⟨hfile,hR,hS,f1.tell n,hnb1,hbe⟩⟩
  rw[ha]
  have hx:(⟨(r1.text.take n).toArray⟩:ByteArray)=text.extract j (j+(r1.text.take n).length):=ba_ext (by rw[sub_list,Nat.add_sub_cancel_left];exact htk)
  rw[←hx]
def RdsR (w:World) (fb:Nat) (fc:List Value) (rb bs g:Nat) (b KY text:ByteArray) (vo vk:Value) (wr:World):Prop:=∃ (r:Ref.Rd) (j k:Nat),vo = .string (text.extract 0 j)∧vk = .int .i64 (k:Nat)∧j≤text.size∧k/3≤j∧RdL w fb fc rb bs g b KY text r j wr
theorem ext_grow (t:ByteArray) (j q:Nat) (h:j+q≤t.size):t.extract 0 j++t.extract j (j+q)=t.extract 0 (j+q):=ext_more t 0 j (j+q) (Nat.zero_le _) (by omega) h
theorem k_nums (k:Nat):∃ r:Nat,(k:Int).tmod 3=(r:Int)∧(k:Int)%3=(r:Int)∧r=k%3:=⟨k%3,by rw[Int.tmod_eq_emod_of_nonneg (by omega)];omega,by omega,rfl⟩
set_option maxRecDepth 100000 in
set_option maxHeartbeats 1600000 in
theorem reads_any (fb:Nat) (v vb:Value) (l:List ByteArray) (d text b H PD KY FK:ByteArray) (ss bs':List ByteArray) (mac:ByteArray) (n:Nat) (turn:Int) (plan:ByteArray) (w:World) (ht:Tabs w) (h1:1≤n) (h3:n≤3) (hm:∀ m ∈ l,m.size=32) (hx:text.size≤268435456) (hpl:plan.size≤268435456) (F:FileF l d text b H PD KY FK ss bs' mac n) (R:FileR fb v vb l d text b H KY w) (t1 : -9223372036854775808≤turn) (t2:turn≤9223372036854775807):
  Calls Tryz.prog 10 #[.pointer (some ⟨fb,0,none⟩),.int .i64 turn,.string plan] w fun e w'=>e = .returned (.bool true)∧Below w.heap.size w w':=by
 have hl0:0<l.length:=by rw[F.hn];omega
 have hEl:=Ref.encF_len (key:=KY.data.toList) (by rw[ba_len,F.ky]) text.data.toList
 have hbz:=F.bz
 have hHs:=F.hs
 have hfn:=Ref.full_nums text.data.toList.length
 have htl:text.data.toList.length=text.size:=ba_len _
 have hbs:b.size≤1099511627776:=by omega
 have hm0:(l.getD 0 ⟨#[]⟩).size=32:=by
  rw[List.getD_eq_getElem?_getD,List.getElem?_eq_getElem hl0]
  exact hm _ (List.getElem_mem hl0)
 have HCA:=hide (calm_any plan w (by omega))
 have HPI:=hide (fun k w hk=>piece_any2 turn k w t1 t2 hk)
 have HFN:=hide (fun (x z:Src) k key (a:x.s=b) (c:x.at_=0) (e:Src.Calm x.plan) h=>F.new h1 h3 (by unfold Hd.at_;rw[ba_len,hm0]) (x:=x) (z:=z) (k:=k) (key:=key) a c e h)
 have HF:=hide F
 have HT:=hide ht
 have HR:=hide R
 have HX:=hide hx
 have HBS:=hide hbs
 obtain ⟨g,o,c,hv,hgl,e1⟩:=R.ms.at 0 hl0
 subst hv
 rw[Nat.add_zero] at e1
 have hln:l.length=n:=F.hn
 rw[hln] at R
 have hfl:=R.blk.lt
 have h2w:=ht.two
 have jn:(0:Int)<(n:Int):=by omega
 have jn2:0<n:=by omega
 unfold Hd.at_ at HFN
 generalize l.getD 0 ⟨#[]⟩=m0 at *
 obtain ⟨fc,hfc⟩:∃ x,fileCells (.slice (some ⟨g,o,none⟩) n c) text d b (H.size:Int) KY vb=x:=⟨_,rfl⟩
 have hB0:=R.blk
 rw[hfc] at hB0
 have q0:fc[0]? = some (.slice (some ⟨g,o,none⟩) n c):=by rw[←hfc];rfl
 have q1:fc[1]? = some (.string text):=by rw[←hfc];rfl
 have q3:fc[3]? = some (.string b):=by rw[←hfc];rfl
 have HQ:=hide (And.intro q0 (And.intro q1 q3))
 have HB0:=hide hB0
 have HG:=hide (And.intro hgl e1)
 clear hm hl0 hEl hbz hHs hfn htl F R ht hm0 hx hbs hB0 q0 q1 q3 hfc hln hgl e1 t1 t2
 go_enter Tryz.func10,Tryz.ntmps10
 go_wp2_with fail
 refine HCA.out.mono ?_
 rintro e w1 ⟨pl,hpn,hcl,rfl,hB1,hb1⟩
 have f3:=(HB0.out.below hb1 hfl).cell HQ.out.2.2
 have hpb:pl.length≤1099511627776:=by omega
 have HSO:=hide (sourceOf_any b w.heap.size plan.size pl w1 hB1 hpb)
 rw[hpn] at HSO
 have hsz1:=hb1.size
 have hbl1:=hB1.lt
 have HB1:=hide hb1
 have HCL:=hide (And.intro hpn hcl)
 clear HCA hB1 hcl hb1 hpn
 go_wp2_with fail
 refine HSO.out.mono ?_
 rintro e w2 ⟨bs,rfl,hsb,hG2,hS2,hb2⟩
 have HB2:=hide (HB1.out.trans (hb2.mono hsz1))
 have HS2:=hide (show SrcRep bs w1.heap.size ⟨b,pl,0,0⟩ w2 from ⟨by rw[←HCL.out.1] at hS2;exact hS2,hG2,HBS.out,Nat.zero_le _,hpb,Nat.zero_le _⟩)
 have hsl2:=hS2.lt
 have f0:=(HB0.out.below HB2.out hfl).cell HQ.out.1
 have fm:=(HB2.out.cell HG.out.1).trans HG.out.2
 have HNR:=hide (newReader_any m0 bs w1.heap.size ⟨b,pl,0,0⟩ w2 (HT.out.after HB2.out) HS2.out (by omega))
 clear HSO hG2 hS2 hb2 f3 HS2
 go_wp2_with fail
 refine HNR.out.mono ?_
 rintro e w3 ⟨y,k,key,pv,hN,rfl,_,hk2,hS3,hG3⟩
 obtain ⟨rfl,rfl,hya,hys,hyp⟩:=HFN.out ⟨b,pl,0,0⟩ y k key rfl rfl HCL.out.2 hN
 obtain ⟨rb,hrb,rfl,hR3⟩:=hk2 rfl
 have hB3:Blk w3 fb 27 fc:=(HB0.out.below HB2.out hfl).grown hG3 (fun e=>by injection e with e;omega)
 have HL0:=hide (show RdL w fb fc rb bs w1.heap.size b KY text ⟨y,KY.data.toList,0,[],[],0⟩ 0 w3 from
  ⟨hB3,hR3,hS3,HF.out.start hys (by rw[hyp];exact HCL.out.2) hya,by show 0+(y.s.size-y.at_)≤b.size;rw[hys];omega,HB2.out.trans (RowKit.Below.of_grown hG3 (by omega) HB2.out.size)⟩)
 have hrl3:=hR3.hb.lt
 clear HNR hN hk2 hS3 hG3 hR3 hB3 HCL f0 fm HG HB2 HB1
 go_wp2
 go_loopw [11,12] (fun vo vk wr=>RdsR w fb fc rb bs w1.heap.size b KY text vo vk wr) (fun _ vk _=>3*text.size+4-(intOf vk).toNat)
 case atStart=>exact ⟨_,0,0,congrArg Value.string (ba_ext (by rw[sub_list];rfl)),rfl,Nat.zero_le _,Nat.zero_le _,HL0.out⟩
 case round=>
  clear HL0
  obtain ⟨r,j,k,rfl,rfl,hj,hk,hL⟩:=hrel
  have HL:=hide hL
  have f1:=hL.file.cell HQ.out.2.1
  have hos:(text.extract 0 j).size=j:=by rw[ByteArray.size_extract];omega
  obtain ⟨out,ho⟩:∃ x,text.extract 0 j=x:=⟨_,rfl⟩
  rw[ho] at hos
  rw[ho]
  have HO:=hide ho
  clear hL ho
  have HRL:=hide (fun m hm1 hm2=>rdl_read HF.out HL.out m hm1 hm2 hj HBS.out (by omega) (by omega) (by omega) (by omega) (by omega) (by omega))
  by_cases hlt:j<text.size
  ·have j1:(j:Int)<(text.size:Int):=by omega
   have hxb:=HX.out
   have hkb:k≤900000000:=by omega
   have HP:=hide (fun w=>HPI.out k w hkb)
   obtain ⟨r3,tr1,tr2,hr3⟩:=k_nums k
   have HKK:=hide (show k/3≤j∧r3=k%3∧j<text.size from ⟨hk,hr3,hlt⟩)
   clear hr3 hk hlt
   go_wp2_with fail
   refine (HP.out _).mono ?_
   rintro e w5 ⟨n0,hn0,rfl,rfl⟩
   clear HP
   by_cases h2:r3=2
   ·subst h2
    obtain ⟨n1,hn1⟩:∃ x:Nat,x=n0+1:=⟨_,rfl⟩
    have tn1:(n0:Int)+1=(n1:Int):=by omega
    have jn1:(0:Int)<(n1:Int):=by omega
    have HN1:=hide hn1
    have hn1b:0<n1∧n1≤41:=by omega
    clear hn1
    have HRD:=hide (HRL.out n1 (by omega) (by omega))
    clear HRL HL
    go_wp2_with fail
    refine HRD.out.mono ?_
    rintro e w6 (⟨_,r6,q,hq0,hqn,hjq,rfl,hL6⟩ | ⟨he6,_,_⟩)
    ·have HL6:=hide hL6
     have hts:(text.extract j (j+q)).size=q:=by rw[ByteArray.size_extract];omega
     have HGR:=hide (show out++text.extract j (j+q)=text.extract 0 (j+q) by rw[←HO.out];exact ext_grow text j q hjq)
     have zt:(text.extract j (j+q)).toList.isEmpty=false:=str_isne (fun e=>by
      have h0:(text.extract j (j+q)).data.toList.length=0:=by rw[e];rfl
      rw[ba_len] at h0
      omega)
     generalize text.extract j (j+q)=tt at *
     have jq:¬ (((n1:Nat)):Int)<(q:Int):=by omega
     have jq2:¬ (((n1:Nat))<q):=by omega
     have u1:¬ (9223372036854775807<j+q):=by have:=HX.out;omega
     have HJQ:=hide (And.intro hq0 hjq)
     clear hL6 HRD hqn
     go_wp2
     go_roundw
     case rel=>exact ⟨r6,j+q,k+1,by rw[HGR.out],by go_num,HJQ.out.2,by have:=HJQ.out;have:=HKK.out;omega,HL6.out⟩
     case measure=>have:=HKK.out;have:=HJQ.out;simp[intOf];omega
    ·omega
   ·have z2:((r3:Int)==2)=false:=beq_eq_false_iff_ne.2 (by omega)
    by_cases hz:n0=0
    ·subst hz
     have HJ:=hide hj
     clear HRL
     go_wp2_with fail
     refine (read_zero rb _).mono ?_
     rintro e w6 ⟨rfl,rfl⟩
     go_wp2
     go_roundw
     case rel=>exact ⟨r,j,k+1,congrArg Value.string (by rw[HO.out];exact ba_ext (by rw[ba_list];exact List.append_nil _)),by go_num,HJ.out,by have:=HKK.out;omega,HL.out⟩
     case measure=>have:=HKK.out;simp[intOf];omega
    ·have jn1:(0:Int)<(n0:Int):=by omega
     have hn1b:0<n0∧n0≤41:=by omega
     have HRD:=hide (HRL.out n0 (by omega) (by omega))
     clear HRL HL
     go_wp2_with fail
     refine HRD.out.mono ?_
     rintro e w6 (⟨_,r6,q,hq0,hqn,hjq,rfl,hL6⟩ | ⟨he6,_,_⟩)
     ·have HL6:=hide hL6
      have hts:(text.extract j (j+q)).size=q:=by rw[ByteArray.size_extract];omega
      have HGR:=hide (show out++text.extract j (j+q)=text.extract 0 (j+q) by rw[←HO.out];exact ext_grow text j q hjq)
      have zt:(text.extract j (j+q)).toList.isEmpty=false:=str_isne (fun e=>by
       have h0:(text.extract j (j+q)).data.toList.length=0:=by rw[e];rfl
       rw[ba_len] at h0
       omega)
      generalize text.extract j (j+q)=tt at *
      have jq:¬ (((n0:Nat)):Int)<(q:Int):=by omega
      have jq2:¬ (((n0:Nat))<q):=by omega
      have u1:¬ (9223372036854775807<j+q):=by have:=HX.out;omega
      have HJQ:=hide (And.intro hq0 hjq)
      clear hL6 HRD hqn
      go_wp2
      go_roundw
      case rel=>exact ⟨r6,j+q,k+1,by rw[HGR.out],by go_num,HJQ.out.2,by have:=HJQ.out;have:=HKK.out;omega,HL6.out⟩
      case measure=>have:=HKK.out;have:=HJQ.out;simp[intOf];omega
     ·omega
  ·have hje:j=text.size:=by omega
   have j1:¬ (j:Int)<(text.size:Int):=by omega
   have hout:out=text:=by rw[←HO.out,hje];exact tx_all text
   have H5:=hide (HRL.out 5 (by decide) (by decide))
   have HJE:=hide hje
   have hjs:=hj
   subst hout
   clear HRL HPI hk hlt hje
   go_wp2_with fail
   refine H5.out.mono ?_
   rintro e w6 (⟨h6,_⟩ | ⟨_,rfl,r6,hL6⟩)
   ·have:=HJE.out;omega
   ·have H1:=hide (rdl_read HF.out hL6 1 (by decide) (by decide) hjs HBS.out (by omega) (by omega) (by omega) (by omega) (by omega) (by omega))
    clear H5 hL6 hos hjs j1 f1 hj
    go_wp2_with fail
    refine H1.out.mono ?_
    rintro e w7 (⟨h7,_⟩ | ⟨_,rfl,r7,hL7⟩)
    ·have:=HJE.out;omega
    ·have HL7:=hide hL7
     have f17:=hL7.file.cell HQ.out.2.1
     clear H1 hL7
     go_wp2_with fail
     refine (read_zero rb _).mono ?_
     rintro e w8 ⟨rfl,rfl⟩
     go_wp2
     go_ret
     exact ⟨rfl,HL7.out.be⟩
theorem FileF.slow {l:List ByteArray} {d text b H PD KY FK:ByteArray} {ss bs:List ByteArray} {mac:ByteArray} {n:Nat} (F:FileF l d text b H PD KY FK ss bs mac n) {r:Ref.Rd} {j:Nat} (h:RdF b KY text r j) (hj:j≤text.size):∃ P,r.x.at_=H.size+16+P∧j≤P/32*16+(if 16<P%32 then P%32-16 else 0):=by
 have hk:KY.data.toList.length=32:=by rw[ba_len,F.ky]
 have hl:=Ref.encF_len hk text.data.toList
 have htl:text.data.toList.length=text.size:=ba_len _
 rw[htl] at hl
 have hfn:=Ref.full_nums text.size
 have hbz:=F.bz
 have hat:=h.at_
 have hrl:=Ref.rest_len r.x
 rw[h.s] at hat hrl
 rcases h.st with ⟨a1,a2,a3,a4,a5,a6,ht⟩ | ⟨a1,a0,ht⟩
 ·have e:=congrArg List.length a5
  unfold Ref.Rd.rem at e
  rw[List.length_append,List.length_drop,hrl] at e
  refine ⟨32*r.n+r.ahead.length,by omega,?_⟩
  split <;> omega
 ·rw[a0] at hrl
  simp only[List.length_nil] at hrl
  refine ⟨(Ref.encF KY.data.toList text.data.toList).length,by omega,?_⟩
  split <;> omega
theorem slow_nums (T P j:Nat) (hP:P≤1099511627776) (h:j≤P/32*16+(if 16<P%32 then P%32-16 else 0)):∃ A D R M M1 M2:Nat,((T+16+P:Nat):Int)-(T:Int)=(A:Int)∧(A:Int)-16=(P:Int)∧(P:Int).tdiv 32=(D:Int)∧(P:Int)/32=(D:Int)∧(D:Int)*16=(M:Int)∧(P:Int).tmod 32=(R:Int)∧(P:Int)%32=(R:Int)∧(16<R→(M:Int)+(R:Int)=(M1:Int)∧(M1:Int)-16=(M2:Int)∧j≤M2)∧(¬ 16<R→j≤M)∧A≤1099511628000∧M≤1099511628000∧R<32:=by
 refine ⟨16+P,P/32,P%32,P/32*16,P/32*16+P%32,P/32*16+P%32-16,by omega,by omega,?_,by omega,by omega,?_,by omega,fun h1=>⟨by omega,by omega,?_⟩,fun h1=>?_,by omega,by omega,Nat.mod_lt _ (by decide)⟩
 ·rw[Int.tdiv_eq_ediv_of_nonneg (by omega)];omega
 ·rw[Int.tmod_eq_emod_of_nonneg (by omega)];omega
 ·rw[if_pos h1] at h;omega
 ·rw[if_neg h1] at h;omega
theorem RdL.after {w:World} {fb:Nat} {fc:List Value} {rb bs g:Nat} {b KY text:ByteArray} {r:Ref.Rd} {j:Nat} {wi wj:World} (h:RdL w fb fc rb bs g b KY text r j wi) (hb:Below wi.heap.size wi wj):RdL w fb fc rb bs g b KY text r j wj:=
 ⟨h.file.below hb h.file.lt,h.rd.after hb,h.src.after hb,h.f,h.nb,h.be.trans (hb.mono h.be.size)⟩
def SlwR (w:World) (fb:Nat) (fc:List Value) (rb bs g:Nat) (b KY text:ByteArray) (vt vi:Value) (wr:World):Prop:=∃ (r:Ref.Rd) (j i:Nat),vt = .int .i64 (j:Nat)∧vi = .int .i64 (i:Nat)∧j≤text.size∧i≤text.size+1∧RdL w fb fc rb bs g b KY text r j wr
set_option maxRecDepth 100000 in
set_option maxHeartbeats 1600000 in
theorem slow_any (fb:Nat) (v vb:Value) (l:List ByteArray) (d text b H PD KY FK:ByteArray) (ss bs':List ByteArray) (mac:ByteArray) (n:Nat) (plan:ByteArray) (w:World) (ht:Tabs w) (h1:1≤n) (h3:n≤3) (hm:∀ m ∈ l,m.size=32) (hx:text.size≤268435456) (hpl:plan.size≤268435456) (F:FileF l d text b H PD KY FK ss bs' mac n) (R:FileR fb v vb l d text b H KY w):
  Calls Tryz.prog 11 #[.pointer (some ⟨fb,0,none⟩),.string plan] w fun e w'=>e = .returned (.bool true)∧Below w.heap.size w w':=by
 have hl0:0<l.length:=by rw[F.hn];omega
 have hEl:=Ref.encF_len (key:=KY.data.toList) (by rw[ba_len,F.ky]) text.data.toList
 have hbz:=F.bz
 have hHs:=F.hs
 have hfn:=Ref.full_nums text.data.toList.length
 have htl:text.data.toList.length=text.size:=ba_len _
 have hbs:b.size≤1099511627776:=by omega
 have hm0:(l.getD 0 ⟨#[]⟩).size=32:=by
  rw[List.getD_eq_getElem?_getD,List.getElem?_eq_getElem hl0]
  exact hm _ (List.getElem_mem hl0)
 have HCA:=hide (calm_any plan w (by omega))
 have HFN:=hide (fun (x z:Src) k key (a:x.s=b) (c:x.at_=0) (e:Src.Calm x.plan) h=>F.new h1 h3 (by unfold Hd.at_;rw[ba_len,hm0]) (x:=x) (z:=z) (k:=k) (key:=key) a c e h)
 have HF:=hide F
 have HT:=hide ht
 have HR:=hide R
 have HX:=hide hx
 have HBS:=hide hbs
 obtain ⟨g,o,c,hv,hgl,e1⟩:=R.ms.at 0 hl0
 subst hv
 rw[Nat.add_zero] at e1
 have hln:l.length=n:=F.hn
 rw[hln] at R
 have hfl:=R.blk.lt
 have h2w:=ht.two
 have jn:(0:Int)<(n:Int):=by omega
 have jn2:0<n:=by omega
 unfold Hd.at_ at HFN
 generalize l.getD 0 ⟨#[]⟩=m0 at *
 obtain ⟨fc,hfc⟩:∃ x,fileCells (.slice (some ⟨g,o,none⟩) n c) text d b (H.size:Int) KY vb=x:=⟨_,rfl⟩
 have hB0:=R.blk
 rw[hfc] at hB0
 have q0:fc[0]? = some (.slice (some ⟨g,o,none⟩) n c):=by rw[←hfc];rfl
 have q1:fc[1]? = some (.string text):=by rw[←hfc];rfl
 have q3:fc[3]? = some (.string b):=by rw[←hfc];rfl
 have q4:fc[4]? = some (.int .i64 (H.size:Int)):=by rw[←hfc];rfl
 have HQ:=hide (And.intro q0 (And.intro q1 (And.intro q3 q4)))
 have HB0:=hide hB0
 have HG:=hide (And.intro hgl e1)
 clear hm hl0 hEl hbz hHs hfn htl F R ht hm0 hx hbs hB0 q0 q1 q3 q4 hfc hln hgl e1
 go_enter Tryz.func11,Tryz.ntmps11
 go_wp2_with fail
 refine HCA.out.mono ?_
 rintro e w1 ⟨pl,hpn,hcl,rfl,hB1,hb1⟩
 have f3:=(HB0.out.below hb1 hfl).cell HQ.out.2.2.1
 have hpb:pl.length≤1099511627776:=by omega
 have HSO:=hide (sourceOf_any b w.heap.size plan.size pl w1 hB1 hpb)
 rw[hpn] at HSO
 have hsz1:=hb1.size
 have hbl1:=hB1.lt
 have HB1:=hide hb1
 have HCL:=hide (And.intro hpn hcl)
 clear HCA hB1 hcl hb1 hpn
 go_wp2_with fail
 refine HSO.out.mono ?_
 rintro e w2 ⟨bs,rfl,hsb,hG2,hS2,hb2⟩
 have HB2:=hide (HB1.out.trans (hb2.mono hsz1))
 have HS2:=hide (show SrcRep bs w1.heap.size ⟨b,pl,0,0⟩ w2 from ⟨by rw[←HCL.out.1] at hS2;exact hS2,hG2,HBS.out,Nat.zero_le _,hpb,Nat.zero_le _⟩)
 have hsl2:=hS2.lt
 have f0:=(HB0.out.below HB2.out hfl).cell HQ.out.1
 have fm:=(HB2.out.cell HG.out.1).trans HG.out.2
 have HNR:=hide (newReader_any m0 bs w1.heap.size ⟨b,pl,0,0⟩ w2 (HT.out.after HB2.out) HS2.out (by omega))
 clear HSO hG2 hS2 hb2 f3 HS2
 go_wp2_with fail
 refine HNR.out.mono ?_
 rintro e w3 ⟨y,k,key,pv,hN,rfl,_,hk2,hS3,hG3⟩
 obtain ⟨rfl,rfl,hya,hys,hyp⟩:=HFN.out ⟨b,pl,0,0⟩ y k key rfl rfl HCL.out.2 hN
 obtain ⟨rb,hrb,rfl,hR3⟩:=hk2 rfl
 have hB3:Blk w3 fb 27 fc:=(HB0.out.below HB2.out hfl).grown hG3 (fun e=>by injection e with e;omega)
 have HL0:=hide (show RdL w fb fc rb bs w1.heap.size b KY text ⟨y,KY.data.toList,0,[],[],0⟩ 0 w3 from
  ⟨hB3,hR3,hS3,HF.out.start hys (by rw[hyp];exact HCL.out.2) hya,by show 0+(y.s.size-y.at_)≤b.size;rw[hys];omega,HB2.out.trans (RowKit.Below.of_grown hG3 (by omega) HB2.out.size)⟩)
 have hrl3:=hR3.hb.lt
 clear HNR hN hk2 hS3 hG3 hR3 hB3 HCL f0 fm HG HB2 HB1
 go_wp2
 go_loopw [9,10] (fun vt vi wr=>SlwR w fb fc rb bs w1.heap.size b KY text vt vi wr) (fun _ vi _=>text.size+2-(intOf vi).toNat)
 case atStart=>exact ⟨_,0,0,rfl,rfl,Nat.zero_le _,Nat.zero_le _,HL0.out⟩
 case round=>
  clear HL0
  obtain ⟨r,j,i,rfl,rfl,hj,hi,hL⟩:=hrel
  have f1:=hL.file.cell HQ.out.2.1
  have HRL:=hide (rdl_read HF.out hL 3 (by decide) (by decide) hj HBS.out (by omega) (by omega) (by omega) (by omega) (by omega) (by omega))
  have HLB:=hide hL.be
  clear hL
  have hxb:=HX.out
  by_cases hlt:i≤text.size
  ·have j1:(i:Int)≤(text.size:Int):=by omega
   go_wp2_with fail
   refine HRL.out.mono ?_
   rintro e w6 (⟨_,r6,q,hq0,hqn,hjq,rfl,hL6⟩ | ⟨he6,rfl,r6,hL6⟩)
   ·have HL6:=hide hL6
    have hts:(text.extract j (j+q)).size=q:=by rw[ByteArray.size_extract];omega
    generalize text.extract j (j+q)=tt at *
    obtain ⟨P,hP,hPj⟩:=HF.out.slow hL6.f hjq
    have hTs:=HF.out.hs
    have hbs6:=hL6.f.at_
    rw[hL6.f.s] at hbs6
    have hbb:=HBS.out
    have HPL:=hide (fun n=>srcPlace_any bs w1.heap.size r6.x (w6.drewN n) (hL6.src.after (below_drewN (Below.refl _ _) n)))
    have f46:=hL6.file.cell HQ.out.2.2.2
    obtain ⟨T,hTT⟩:∃ T:Nat,H.size=T:=⟨_,rfl⟩
    rw[hTT] at hP hTs f46
    obtain ⟨A,D,R,M,M1,M2,t1,t2,t3,t4,t5,t6,t7,t8,t9,t10,t11,t12⟩:=slow_nums T P (j+q) (by omega) hPj
    rw[hP] at HPL
    obtain ⟨X,hX⟩:∃ X:Nat,T+16+P=X:=⟨_,rfl⟩
    rw[hX] at HPL t1
    obtain ⟨J,hJ⟩:∃ J:Nat,j+q=J:=⟨_,rfl⟩
    have tJ:(j:Int)+(q:Int)=(J:Int):=by omega
    rw[hJ] at t8 t9
    have hJb:J≤268435456:=by omega
    have hXb:X≤1099511628100:=by omega
    have HJQ:=hide (show J=j+q∧0<q∧j+q≤text.size from ⟨hJ.symm,hq0,hjq⟩)
    have HJI:=hide (And.intro hj hlt)
    clear hL6 HRL hqn hP hPj hTs hbs6 hbb hX hJ hjq hq0
    by_cases h16:16<R
    ·obtain ⟨t13,t14,t15⟩:=t8 h16
     have j6:(16:Int)<(R:Int):=by omega
     have j7:¬ (M2:Int)<(J:Int):=by omega
     clear t8 t9
     go_wp2
     go_quiet ((go_at_call 37;exact Calls.quiet_of_same (HPL.out _)))
     go_wp2
     go_roundw
     case rel=>exact ⟨r6,J,i+1,rfl,by go_num,by have:=HJQ.out;omega,by have:=HJI.out;omega,by rw[HJQ.out.1];exact HL6.out.after (below_drewN (Below.refl _ _) _)⟩
     case measure=>have:=HJI.out;simp[intOf];omega
    ·have t13:=t9 h16
     have j6:¬ (16:Int)<(R:Int):=by omega
     have j7:¬ (M:Int)<(J:Int):=by omega
     clear t8 t9
     go_wp2
     go_quiet ((go_at_call 37;exact Calls.quiet_of_same (HPL.out _)))
     go_wp2
     go_roundw
     case rel=>exact ⟨r6,J,i+1,rfl,by go_num,by have:=HJQ.out;omega,by have:=HJI.out;omega,by rw[HJQ.out.1];exact HL6.out.after (below_drewN (Below.refl _ _) _)⟩
     case measure=>have:=HJI.out;simp[intOf];omega
   ·have HL6:=hide hL6
    obtain ⟨P,hP,hPj⟩:=HF.out.slow hL6.f hj
    have hTs:=HF.out.hs
    have hbs6:=hL6.f.at_
    rw[hL6.f.s] at hbs6
    have hbb:=HBS.out
    have HPL:=hide (fun n=>srcPlace_any bs w1.heap.size r6.x (w6.drewN n) (hL6.src.after (below_drewN (Below.refl _ _) n)))
    have f46:=hL6.file.cell HQ.out.2.2.2
    have f16:=hL6.file.cell HQ.out.2.1
    obtain ⟨T,hTT⟩:∃ T:Nat,H.size=T:=⟨_,rfl⟩
    rw[hTT] at hP hTs f46
    obtain ⟨A,D,R,M,M1,M2,t1,t2,t3,t4,t5,t6,t7,t8,t9,t10,t11,t12⟩:=slow_nums T P j (by omega) hPj
    rw[hP] at HPL
    obtain ⟨X,hX⟩:∃ X:Nat,T+16+P=X:=⟨_,rfl⟩
    rw[hX] at HPL t1
    have hJb:j≤268435456:=by omega
    have hXb:X≤1099511628100:=by omega
    have hje:text.size=j:=he6.symm
    clear hL6 HRL hP hPj hTs hbs6 hbb hX he6
    by_cases h16:16<R
    ·obtain ⟨t13,t14,t15⟩:=t8 h16
     have j6:(16:Int)<(R:Int):=by omega
     have j7:¬ (M2:Int)<(j:Int):=by omega
     clear t8 t9
     go_wp2
     go_quiet ((go_at_call 37;exact Calls.quiet_of_same (HPL.out _)))
     go_wp2
     go_ret
     exact ⟨rfl,(HL6.out.after (below_drewN (Below.refl _ _) _)).be⟩
    ·have t13:=t9 h16
     have j6:¬ (16:Int)<(R:Int):=by omega
     have j7:¬ (M:Int)<(j:Int):=by omega
     clear t8 t9
     go_wp2
     go_quiet ((go_at_call 37;exact Calls.quiet_of_same (HPL.out _)))
     go_wp2
     go_ret
     exact ⟨rfl,(HL6.out.after (below_drewN (Below.refl _ _) _)).be⟩
  ·have j1:¬ (i:Int)≤(text.size:Int):=by omega
   go_wp2
   go_ret
   exact ⟨rfl,HLB.out⟩
structure UV (w:World) (hb:Nat) (vs vb:Value) (mac:ByteArray) (ss bs:List ByteArray) (wi:World):Prop where
 hd:Blk wi hb 70 [vs,vb,.string mac]
 be:Below w.heap.size w wi
 tb:Tabs wi
 s1:Strs wi vs ss
 s2:Strs wi vb bs
theorem UV.after {w:World} {hb:Nat} {vs vb:Value} {mac:ByteArray} {ss bs:List ByteArray} {wi wj:World} (h:UV w hb vs vb mac ss bs wi) (hb2:Below wi.heap.size wi wj):UV w hb vs vb mac ss bs wj:=
 ⟨h.hd.below hb2 h.hd.lt,h.be.trans (hb2.mono h.be.size),h.tb.after hb2,h.s1.after hb2,h.s2.after hb2⟩
theorem cell_alloc {w:World} {a:Addr} {v:Value} (o:Obj) (h:w.cell? a=some v):(w.alloc o).cell? a=some v:=by
 rw[World.cell?_alloc_some _ _ _ (by rw[h];rfl)]
 exact h
theorem cell_set3 {w:World} {hb fb k:Nat} {x y z:Value} (hne:hb≠fb):(((w.setCell ⟨hb,0,none⟩ x).setCell ⟨hb,1,none⟩ y).setCell ⟨hb,2,none⟩ z).cell? ⟨fb,k,none⟩=w.cell? ⟨fb,k,none⟩:=
 ((World.cell?_setCell_far _ ⟨hb,2,none⟩ ⟨fb,k,none⟩ _ hne).trans (World.cell?_setCell_far _ ⟨hb,1,none⟩ ⟨fb,k,none⟩ _ hne)).trans (World.cell?_setCell_far _ ⟨hb,0,none⟩ ⟨fb,k,none⟩ _ hne)
theorem cell_al {w:World} {fb k:Nat} {o:Obj} (h:fb<w.heap.size):(w.alloc o).cell? ⟨fb,k,none⟩=w.cell? ⟨fb,k,none⟩:=World.cell?_alloc_lt _ _ _ h
structure SlS (w:World) (fb:Nat) (v vb:Value) (l:List ByteArray) (d text b H KY:ByteArray) (hb:Nat) (vs vc:Value) (mac:ByteArray) (ss bs:List ByteArray) (wi:World):Prop where
 f:FileR fb v vb l d text b H KY wi
 u:UV w hb vs vc mac ss bs wi
theorem SlS.after {w:World} {fb:Nat} {v vb:Value} {l:List ByteArray} {d text b H KY:ByteArray} {hb:Nat} {vs vc:Value} {mac:ByteArray} {ss bs:List ByteArray} {wi wj:World} (h:SlS w fb v vb l d text b H KY hb vs vc mac ss bs wi) (hb2:Below wi.heap.size wi wj):SlS w fb v vb l d text b H KY hb vs vc mac ss bs wj:=
 ⟨⟨h.f.blk.below hb2 h.f.blk.lt,h.f.ms.after hb2,h.f.bx.after hb2⟩,h.u.after hb2⟩
set_option maxRecDepth 100000 in
set_option maxHeartbeats 1600000 in
theorem slipped_any (fb:Nat) (v vb:Value) (l:List ByteArray) (d text b H PD KY FK:ByteArray) (ss bs:List ByteArray) (mac:ByteArray) (n i:Nat) (w:World) (ht:Tabs w) (h1:1≤n) (h3:n≤3) (hi:i<n) (hm:∀ m ∈ l,m.size=32) (F:FileF l d text b H PD KY FK ss bs mac n) (R:FileR fb v vb l d text b H KY w):
  Calls Tryz.prog 9 #[.pointer (some ⟨fb,0,none⟩),.int .i64 (i:Nat)] w fun e w'=>∃ bb,e = .returned (.bool bb)∧(Slip l ss bs i→bb=true)∧Below w.heap.size w w':=by
 have hHs:=F.hs
 have hbz:=F.bz
 have c3:=R.blk.cell (i:=3) rfl
 have c4:=R.blk.cell (i:=4) rfl
 have hfl:=R.blk.lt
 have e0:=F.e0
 obtain ⟨T,hT⟩:∃ T:Nat,H.size=T:=⟨_,rfl⟩
 rw[hT] at e0 hHs hbz c4
 have hTN:(T:Int)≤(b.size:Int):=by omega
 have hTb:T≤284:=by omega
 have HPA:=hide (fun w=>pParse_any H w (by omega))
 rw[F.par] at HPA
 change Hid (∀ w,Calls Tryz.prog 31 #[.string H] w fun e w'=>∃ vs vb,e = .returned (.tuple #[.agg #[vs,vb,.string mac],.int .i64 0]) ∧
   Row w' w.heap.size 9 1 vs ss.length (strV ss)∧Row w' w.heap.size 9 1 vb bs.length (strV bs)∧Below w.heap.size w w') at HPA
 have HF:=hide F
 have HR:=hide R
 have HT:=hide ht
 have HM:=hide hm
 have HB0:=hide (show Blk (w.alloc (.cells #[.slice none 0 0,.slice none 0 0,.string ⟨#[]⟩] 70)).drew w.heap.size 70 [.slice none 0 0,.slice none 0 0,.string ⟨#[]⟩] from Blk.new rfl rfl)
 have hfl2:fb<(w.alloc (.cells #[.slice none 0 0,.slice none 0 0,.string ⟨#[]⟩] 70)).drew.heap.size:=Nat.lt_of_lt_of_le hfl ((Below.refl w.heap.size w).alloc (Nat.le_refl _) _).size
 have c3D:w.drew.cell? ⟨fb,3,none⟩=some (.string b):=c3
 have c4D:w.drew.cell? ⟨fb,4,none⟩=some (.int .i64 (T:Nat)):=c4
 have c3A:(w.alloc (.cells #[.slice none 0 0,.slice none 0 0,.string ⟨#[]⟩] 70)).drew.cell? ⟨fb,3,none⟩=some (.string b):=cell_alloc _ c3
 have c4A:(w.alloc (.cells #[.slice none 0 0,.slice none 0 0,.string ⟨#[]⟩] 70)).drew.cell? ⟨fb,4,none⟩=some (.int .i64 (T:Nat)):=cell_alloc _ c4
 clear F R ht hm hHs hbz hT
 go_enter Tryz.func9,Tryz.ntmps9
 go_upto_region 1 with fail
 go_cut [5] from 6 (fun s5 wx=>∃ hb vs vc,s5 = .pointer (some ⟨hb,0,none⟩)∧SlS w fb v vb l d text b H KY hb vs vc mac ss bs wx)
 case first=>
  go_region_held3 (fun w'=>w'.cell? ⟨fb,3,none⟩=some (.string b)∧w'.cell? ⟨fb,4,none⟩=some (.int .i64 (T:Nat))) ((refine ⟨?_,?_⟩ <;> first | assumption | (rw[cell_set3 hne3];assumption) | (rw[cell_al hfl3];assumption))) ((go_at_call 31;refine (HPA.out _).mono ?_;rintro e w2 ⟨vs,vc,rfl,hr1,hr2,hb2⟩;obtain ⟨o1,c1,rfl,hq1⟩:=Row.anyN hr1;obtain ⟨o2,c2,rfl,hq2⟩:=Row.anyN hr2;first | (have K3:=(hb2.cell hfl2).trans c3A;have K4:=(hb2.cell hfl2).trans c4A;have hfl3:=Nat.lt_of_lt_of_le hfl2 hb2.size;have hB2:=HB0.out.below hb2 HB0.out.lt;have d0:=hB2.cell (i:=0) rfl;have d1:=hB2.cell (i:=1) rfl;have d2:=hB2.cell (i:=2) rfl;have df:=hB2.frozen;have hne3:w.heap.size≠fb:=Nat.ne_of_gt hfl;have hne4:fb≠w.heap.size:=Nat.ne_of_lt hfl) | (have K3:=(hb2.cell hfl).trans c3D;have K4:=(hb2.cell hfl).trans c4D;have hfl3:=Nat.lt_of_lt_of_le hfl hb2.size;have hne3:w2.heap.size≠fb:=Nat.ne_of_gt hfl3;have hne4:fb≠w2.heap.size:=fun e=>hne3 e.symm)))
  ·go_wp2_with fail
   go_meet
   case rel=>
    have hbA:Below w2.heap.size w2 (w2.alloc (.cells #[.slice o1 ss.length c1,.slice o2 bs.length c2,.string mac] 70)):=(Below.refl _ _).alloc (Nat.le_refl _) _
    have hbw:Below w.heap.size w w2:=(show Below w.heap.size w w.drew from ⟨rfl,rfl,rfl,Nat.le_refl _,fun _ _=>rfl⟩).trans hb2
    have hbx:=hbw.trans (hbA.mono hbw.size)
    exact ⟨w2.heap.size,_,_,rfl,⟨⟨HR.out.blk.below hbx HR.out.blk.lt,HR.out.ms.after hbx,HR.out.bx.after hbx⟩,⟨Blk.new rfl rfl,hbx,HT.out.after hbx,(Row.strs hr1).after hbA,(Row.strs hr2).after hbA⟩⟩⟩
  ·go_wp2_with fail
   go_meet
   case rel=>
    have hbw:Below w.heap.size w w2:=((Below.refl w.heap.size w).alloc (Nat.le_refl _) (.cells #[.slice none 0 0,.slice none 0 0,.string ⟨#[]⟩] 70)).trans ((show Below w.heap.size (w.alloc (.cells #[.slice none 0 0,.slice none 0 0,.string ⟨#[]⟩] 70)) (w.alloc (.cells #[.slice none 0 0,.slice none 0 0,.string ⟨#[]⟩] 70)).drew from ⟨rfl,rfl,rfl,Nat.le_refl _,fun _ _=>rfl⟩).trans (hb2.mono (Nat.le_of_lt HB0.out.lt)))
    have hG:=(((World.grownBy.refl w2 (some w.heap.size)).setCell 0 (.slice o1 ss.length c1)).setCell 1 (.slice o2 bs.length c2)).setCell 2 (.string mac)
    have hB3:=((hB2.setCell_same 0 (.slice o1 ss.length c1)).setCell_same 1 (.slice o2 bs.length c2)).setCell_same 2 (.string mac)
    have hbx:=hbw.trans (RowKit.Below.of_grown hG (Nat.le_refl _) hbw.size)
    have hlt:=HB0.out.lt
    exact ⟨w.heap.size,_,_,rfl,⟨⟨HR.out.blk.below hbx HR.out.blk.lt,HR.out.ms.after hbx,HR.out.bx.after hbx⟩,⟨hB3,hbx,HT.out.after hbx,
     (Row.strs hr1).grown hG (fun g o n c hv _ e=>by have:=(hr1.lt g (by rw[hv];rfl)).1;omega),(Row.strs hr2).grown hG (fun g o n c hv _ e=>by have:=(hr2.lt g (by rw[hv];rfl)).1;omega)⟩⟩⟩
 case rest=>
  obtain ⟨hb,vs,vc,rfl,hS⟩:=hcut
  have HS0:=hide hS
  obtain ⟨ao,cp,hv⟩:=hS.f.ms.len
  subst hv
  obtain ⟨a1,k1,hv⟩:=hS.u.s1.len
  subst hv
  obtain ⟨a2,k2,hv⟩:=hS.u.s2.len
  subst hv
  have hln:=HF.out.hn
  have hls:=HF.out.nss
  have hlb:bs.length=n:=by rw[HF.out.ok.nb,hls]
  rw[hln,hls,hlb] at HS0
  have HLN:=hide (And.intro hln (And.intro hls hlb))
  clear hS hln hls hlb c3 c4 c3D c4D c3A c4A HB0 hfl2 HPA e0 hfl hTN hTb HR HT
  go_wp2
  go_loopw [7] (fun vj wr=>∃ j:Nat,j≤i∧vj = .int .i64 (j:Nat)∧SlS w fb (.slice ao n cp) vb l d text b H KY hb (.slice a1 n k1) (.slice a2 n k2) mac ss bs wr∧∀ q,q<j→¬ ((Ref.body (Hd.at_ l i) ss bs q).2=0∧l.getD q ⟨#[]⟩≠l.getD i ⟨#[]⟩)) (fun vj _=>i-(intOf vj).toNat)
  case atStart=>exact ⟨0,Nat.zero_le _,rfl,HS0.out,fun q hq=>absurd hq (Nat.not_lt_zero _)⟩
  case round=>
   clear HS0
   obtain ⟨j,hj,rfl,hS,hno⟩:=hrel
   have HS:=hide hS
   have HNO:=hide hno
   clear hno
   by_cases hlt:j<i
   ·have jl:(j:Int)<(i:Int):=by omega
    have jn:(j:Int)<(n:Int):=by omega
    have jn2:(i:Int)<(n:Int):=by omega
    obtain ⟨g0,p0,q0,hv0,hgl0,e0⟩:=hS.f.ms.at i (by rw[HLN.out.1];exact hi)
    injection hv0 with hv0 hv0n hv0c
    clear hv0n
    subst hv0
    subst hv0c
    obtain ⟨g0',p0',q0',hv0,hgl0',e0'⟩:=hS.f.ms.at j (by rw[HLN.out.1];omega)
    injection hv0 with hv0 hv0n hv0c
    clear hv0n hv0c
    injection hv0 with hv0
    injection hv0 with hv0a hv0b hv0c
    clear hv0c
    subst hv0a
    subst hv0b
    obtain ⟨g1,p1,q1,hv1,hgl1,e1⟩:=hS.u.s1.at j (by rw[HLN.out.2.1];omega)
    injection hv1 with hv1 hv1n hv1c
    clear hv1n
    subst hv1
    subst hv1c
    obtain ⟨g2,p2,q2,hv2,hgl2,e2⟩:=hS.u.s2.at j (by rw[HLN.out.2.2];omega)
    injection hv2 with hv2 hv2n hv2c
    clear hv2n
    subst hv2
    subst hv2c
    have hm32:(l.getD i ⟨#[]⟩).size=32:=by
     have hil:i<l.length:=by rw[HLN.out.1];exact hi
     rw[List.getD_eq_getElem?_getD,List.getElem?_eq_getElem hil]
     exact HM.out _ (List.getElem_mem hil)
    have hs16:=HF.out.ok.hs j (by rw[HLN.out.2.1];omega)
    have hb32:=HF.out.ok.hb j (by rw[HLN.out.2.1];omega)
    have hbd:Ref.body (Hd.at_ l i) ss bs j=Box.opened (Ref.keyL (l.getD i ⟨#[]⟩).data.toList (ss.getD j ⟨#[]⟩).data.toList Ref.inWrap) (nought 12) [] (bs.getD j ⟨#[]⟩).data.toList:=rfl
    have HNX:Hid (¬ ((Ref.body (Hd.at_ l i) ss bs j).2=0∧l.getD j ⟨#[]⟩≠l.getD i ⟨#[]⟩)→∀ q,q<j+1→¬ ((Ref.body (Hd.at_ l i) ss bs q).2=0∧l.getD q ⟨#[]⟩≠l.getD i ⟨#[]⟩)):=hide (fun h q hq=>by
     rcases Nat.eq_or_lt_of_le (Nat.le_of_lt_succ hq) with e | e
     ·subst e;exact h
     ·exact HNO.out q e)
    rw[hbd] at HNX
    have c0:=hS.f.blk.cell (i:=0) rfl
    have d0:=hS.u.hd.cell (i:=0) rfl
    have hfl:=hS.f.blk.lt
    have hhl:=hS.u.hd.lt
    have HKY:=hide (kKey_any (l.getD i ⟨#[]⟩) (ss.getD j ⟨#[]⟩) ⟨#[119,114,97,112]⟩ wr.drew (by omega) (by omega) (by decide) hS.u.tb.k hS.u.tb.h hS.u.tb.two)
    rw[show (expO (macL (ss.getD j ⟨#[]⟩).data.toList (l.getD i ⟨#[]⟩).data.toList) (⟨#[119,114,97,112]⟩:ByteArray).data.toList 1).take 32=Ref.keyL (l.getD i ⟨#[]⟩).data.toList (ss.getD j ⟨#[]⟩).data.toList Ref.inWrap from rfl] at HKY
    have hkz:(⟨(Ref.keyL (l.getD i ⟨#[]⟩).data.toList (ss.getD j ⟨#[]⟩).data.toList Ref.inWrap).toArray⟩:ByteArray).size=32:=by rw[two_size,Ref.keyL_len]
    have HOP:=hide (fun w=>openAt ⟨(Ref.keyL (l.getD i ⟨#[]⟩).data.toList (ss.getD j ⟨#[]⟩).data.toList Ref.inWrap).toArray⟩ ⟨(nought 12).toArray⟩ (bs.getD j ⟨#[]⟩) w hkz rfl (by omega))
    rw[two_toList,two_toList] at HOP
    have hoc:=Ref.opened_code (Ref.keyL (l.getD i ⟨#[]⟩).data.toList (ss.getD j ⟨#[]⟩).data.toList Ref.inWrap) (nought 12) [] (bs.getD j ⟨#[]⟩).data.toList
    generalize Box.opened (Ref.keyL (l.getD i ⟨#[]⟩).data.toList (ss.getD j ⟨#[]⟩).data.toList Ref.inWrap) (nought 12) [] (bs.getD j ⟨#[]⟩).data.toList=op at *
    generalize (⟨(Ref.keyL (l.getD i ⟨#[]⟩).data.toList (ss.getD j ⟨#[]⟩).data.toList Ref.inWrap).toArray⟩:ByteArray)=kk at *
    generalize hmi:l.getD i ⟨#[]⟩=mi at *
    generalize hmj:l.getD j ⟨#[]⟩=mj at *
    generalize ss.getD j ⟨#[]⟩=sj at *
    generalize bs.getD j ⟨#[]⟩=bj at *
    obtain ⟨ot,oe⟩:=op
    simp only at hoc HOP HNX
    have HLT:=hide hlt
    have HI:=hide hi
    clear hmi hmj hbd hkz hm32 hs16 hb32 hlt hj hS HNO
    go_wp2
    go_region_held3 (fun w'=>w'.cell? ⟨fb,0,none⟩=some (.slice (some ⟨g0,p0,none⟩) n cp)∧w'.cell? ⟨g0,p0+i,none⟩=some (.string mi)∧w'.cell? ⟨hb,0,none⟩=some (.slice (some ⟨g1,p1,none⟩) n k1)∧w'.cell? ⟨g1,p1+j,none⟩=some (.string sj)) (refine ⟨?_,?_,?_,?_⟩ <;> first | assumption | (exact (hb5.cell hfl).trans (by assumption)) | (exact (hb5.cell hgl0).trans (by assumption)) | (exact (hb5.cell hhl).trans (by assumption)) | (exact (hb5.cell hgl1).trans (by assumption))) ((go_at_call 32;refine HKY.out.mono ?_;rintro e w5 ⟨rfl,hb5⟩))
    rename_i hH
    clear hH
    have hbd:Below wr.heap.size wr w5:=(show Below wr.heap.size wr wr.drew from ⟨rfl,rfl,rfl,Nat.le_refl _,fun _ _=>rfl⟩).trans hb5
    have S5:=hide (HS.out.after hbd)
    have f0:=(hbd.cell hgl0).trans e0
    have f0':=(hbd.cell hgl0').trans e0'
    have f2:=(hbd.cell hgl2).trans e2
    have hg0:=Nat.lt_of_lt_of_le hgl0 hbd.size
    have hg0':=Nat.lt_of_lt_of_le hgl0' hbd.size
    have hg2:=Nat.lt_of_lt_of_le hgl2 hbd.size
    clear hb5 hbd HS HKY c0 d0 e0 e0' e1 e2 hgl0 hgl0' hgl1 hgl2 hfl hhl
    go_wp2_with fail
    refine (zeros_any _).mono ?_
    rintro e w6 ⟨rfl,hb6⟩
    have S6:=hide (S5.out.after hb6)
    have d1:=S6.out.u.hd.cell (i:=1) rfl
    have f0:=(hb6.cell hg0).trans f0
    have f0':=(hb6.cell hg0').trans f0'
    have f2:=(hb6.cell hg2).trans f2
    have hg0:=Nat.lt_of_lt_of_le hg0 hb6.size
    have hg0':=Nat.lt_of_lt_of_le hg0' hb6.size
    clear hb6 S5
    go_wp2_with fail
    refine (HOP.out _).mono ?_
    rintro e w7 ⟨rfl,hb7⟩
    have S7:=hide (S6.out.after hb7)
    have c0:=S7.out.f.blk.cell (i:=0) rfl
    have f0:=(hb7.cell hg0).trans f0
    have f0':=(hb7.cell hg0').trans f0'
    clear hb7 S6 d1 f2 HOP
    rcases hoc with rfl | rfl
    ·by_cases he:mj=mi
     ·subst he
      go_wp2
      go_quiet (fail)
      go_wp2
      go_roundw
      case rel=>exact ⟨j+1,HLT.out,by go_num,S7.out.after (below_drewN (Below.refl _ _) _),HNX.out (fun h=>h.2 rfl)⟩
      case measure=>have:=HLT.out;simp[intOf];omega
     ·have zt:(mj.toList==mi.toList)=false:=str_ne (fun e=>he (ba_ext e))
      clear he
      go_wp2
      go_quiet (fail)
      go_wp2
      go_ret
      exact ⟨true,rfl,fun _=>rfl,(S7.out.after (below_drewN (Below.refl _ _) _)).u.be⟩
    ·go_wp2
     go_quiet (fail)
     go_wp2
     go_roundw
     case rel=>exact ⟨j+1,HLT.out,by go_num,S7.out.after (below_drewN (Below.refl _ _) _),HNX.out (fun h=>absurd h.1 (by decide))⟩
     case measure=>have:=HLT.out;simp[intOf];omega
   ·obtain rfl:j=i:=by omega
    have jl:¬ (j:Int)<(j:Int):=by omega
    clear hS
    go_wp2
    go_ret
    exact .inl ⟨rfl,(fun ⟨q,h1,h2,h3⟩=>absurd ⟨h2,h3⟩ (HNO.out q h1)),HS.out.u.be⟩
end Go.Proofs.YtoifalcpfnacnaaGreatDoor
namespace Go.Proofs.YtoifalcpfnacnaaGreatDoor
open Go.ChangeShapes Go.WideShapes Go.ChangeAt Go.RowKit Go.Deep
theorem own:ownKnob Tryz.prog.godebug=none:=by kernel_rfl
theorem gH : Tryz.prog.globalNamed "strongbox/sha2.firstWords" = some 0 := by kernel_rfl
theorem gK : Tryz.prog.globalNamed "strongbox/sha2.roundWords" = some 1 := by kernel_rfl
theorem gHt:(Tryz.prog.globals[0]?).map (·.type)=some 169:=by kernel_rfl
theorem gKt:(Tryz.prog.globals[1]?).map (·.type)=some 187:=by kernel_rfl
theorem c8:Tryz.prog.cellsOf 169=8:=by kernel_rfl
theorem c64:Tryz.prog.cellsOf 187=64:=by kernel_rfl
theorem c32:Tryz.prog.cellsOf 150=1:=by kernel_rfl
theorem tabs2 {W : World} (h' : laidMet Tryz.prog [("strongbox/sha2.firstWords", Lib.tabData .u32 (Sha.H0.list.map fun (n : Nat) => (n : Int))), ("strongbox/sha2.roundWords", Lib.tabData .u32 (Sha.Kt.map fun (n : Nat) => (n : Int)))] W) : HTab W ∧ KTab W := by
 have t1:=Lib.tabIs_of_head gH gHt Tryz.underlying169 Tryz.underlying150 c32 c8 h'
 have t2:=Lib.tabIs_of_head gK gKt Tryz.underlying187 Tryz.underlying150 c32 c64 h'.tail
 refine ⟨fun i hi=>?_,fun i hi=>?_⟩
 ·have hl:i<Sha.H0.list.length:=hi
  rw[t1.cell gH i (by simpa using hl)]
  simp[Sha.wAt,List.getD,hl]
 ·have hl:i<Sha.Kt.length:=hi
  rw[t2.cell gK i (by simpa using hl)]
  simp[Sha.wAt,List.getD,hl]
def laidIn (ns:List Nat):Obj→Obj
 | .cells _ t frozen=>.cells (ns.map fun (n:Nat)=>Value.int .u32 (n:Int)).toArray t frozen
 | o=>o
def laidWorld (P:Program) (os:Os):World:=
 { World.holding P os ⟨#[],#[],[]⟩ with heap:=((World.holding P os ⟨#[],#[],[]⟩).heap.modify 0 (laidIn Sha.H0.list)).modify 1 (laidIn Sha.Kt) }
theorem open_text0 {H:Type} {enc:TypeId × Value→H} {P:Program} {t:TypeId} (ht:P.underlying t=some .string) {W:World} {r:Reach} {b0 base:Nat} {sp:Nat→Bool} {held:Bool} {v:Value} {d:DataW H} {ps:List MemPlace} (hval:Value.okWide P W r b0 t v) (hd:DataW.Trod enc P W base sp held t v d ps):
  ∃ s:ByteArray,v = .string s∧d = .lit (.string s.data.toList)∧ps=[]∧s.size≤maxLen:=by
 obtain ⟨s,rfl⟩:=okWide_string ht hval
 obtain ⟨fuel,hf⟩:=hd
 obtain ⟨s',h,hx,hs⟩:=DataW.trod_string ht hf
 simp[Value.cells] at h
 subst h
 simp only[Prod.mk.injEq] at hx
 exact ⟨s,rfl,hx.1,hx.2,hs⟩
theorem shut_text0 {H:Type} {enc:TypeId × Value→H} {P:Program} {t:TypeId} (ht:P.underlying t=some .string) {W:World} {base:Nat} {sp:Nat→Bool} {held:Bool} {s:ByteArray} (hs:s.size≤maxLen):DataW.Trod enc P W base sp held t (.string s) (.lit (.string s.data.toList)) []:=
 ⟨1,by simp[DataW.trod,Value.cells,ht,hs]⟩
set_option maxRecDepth 100000 in
theorem open_text {H:Type} {enc:TypeId × Value→H} {W:World} {r:Reach} {b0 base:Nat} {sp:Nat→Bool} {held:Bool} {v:Value} {d:DataW H} {ps:List MemPlace} (hval:Value.okWide Tryz.prog W r b0 9 v) (hd:DataW.Trod enc Tryz.prog W base sp held 9 v d ps):
  ∃ s:ByteArray,v = .string s∧d = .lit (.string s.data.toList)∧ps=[]∧s.size≤maxLen:=open_text0 Tryz.underlying9 hval hd
set_option maxRecDepth 100000 in
theorem shut_text {H:Type} {enc:TypeId × Value→H} {W:World} {base:Nat} {sp:Nat→Bool} {held:Bool} {s:ByteArray} (hs:s.size≤maxLen):DataW.Trod enc Tryz.prog W base sp held 9 (.string s) (.lit (.string s.data.toList)) []:=shut_text0 Tryz.underlying9 hs
theorem open_int0 {H:Type} {enc:TypeId × Value→H} {P:Program} {t:TypeId} (ht:P.underlying t=some (.int .i64)) {W:World} {r:Reach} {b0 base:Nat} {sp:Nat→Bool} {held:Bool} {v:Value} {d:DataW H} {ps:List MemPlace} (hval:Value.okWide P W r b0 t v) (hd:DataW.Trod enc P W base sp held t v d ps):
  ∃ n:Int,v = .int .i64 n∧d = .lit (.int .i64 n)∧ps=[]∧(Lit.int .i64 n).wf=true:=by
 obtain ⟨n,rfl⟩:=okWide_int ht hval
 obtain ⟨fuel,hf⟩:=hd
 obtain ⟨m,h,hx,hs⟩:=DataW.trod_int ht hf
 simp[Value.cells] at h
 subst h
 simp only[Prod.mk.injEq] at hx
 exact ⟨n,rfl,hx.1,hx.2,hs⟩
set_option maxRecDepth 100000 in
theorem open_intA {H:Type} {enc:TypeId × Value→H} {W:World} {r:Reach} {b0 base:Nat} {sp:Nat→Bool} {held:Bool} {v:Value} {d:DataW H} {ps:List MemPlace} (hval:Value.okWide Tryz.prog W r b0 3 v) (hd:DataW.Trod enc Tryz.prog W base sp held 3 v d ps):
  ∃ n:Int,v = .int .i64 n∧d = .lit (.int .i64 n)∧ps=[]∧(Lit.int .i64 n).wf=true:=open_int0 Tryz.underlying3 hval hd
set_option maxRecDepth 100000 in
theorem shut_intA {H:Type} {enc:TypeId × Value→H} {W:World} {base:Nat} {sp:Nat→Bool} {held:Bool} {n:Int} (hn:(Lit.int .i64 n).wf=true):DataW.Trod enc Tryz.prog W base sp held 3 (.int .i64 n) (.lit (.int .i64 n)) []:=
 ⟨1,Go.ChangeShapes.trod_int_mk 0 Tryz.underlying3 hn⟩
theorem wfB {n:Int} (h:(Lit.int .i64 n).wf=true) : -9223372036854775808≤n∧n≤9223372036854775807:=by
 simp only[Lit.wf,Bool.and_eq_true,decide_eq_true_eq] at h
 have h1:IntKind.i64.min = -9223372036854775808:=rfl
 have h2:IntKind.i64.max=9223372036854775807:=rfl
 omega
theorem mk4 {H:Type} {enc:TypeId × Value→H} {P:Program} {w:World} {base:Nat} {sp:Nat→Bool} {held:Bool} {t t' t'' t3:TypeId} {v v' v'' v3:Value} {d d' d'' d3:DataW H} (h:DataW.Trod enc P w base sp held t v d []) (h':DataW.Trod enc P w base sp held t' v' d' []) (h'':DataW.Trod enc P w base sp held t'' v'' d'' []) (h3:DataW.Trod enc P w base sp held t3 v3 d3 []):
  DataW.TrodAll enc P w base sp held [t,t',t'',t3] [v,v',v'',v3] [d,d',d'',d3] []:=⟨[],[],h,trodAll_mk3 h' h'' h3,rfl⟩
theorem trodAll_five {H:Type} {enc:TypeId × Value→H} {P:Program} {w:World} {base:Nat} {spare:Nat→Bool} {held:Bool} {t t1 t2 t3 t4:TypeId} {args:Array Value} {ds:List (DataW H)} {ps:List MemPlace} (h:DataW.TrodAll enc P w base spare held [t,t1,t2,t3,t4] args.toList ds ps):
  ∃ v v1 v2 v3 v4 d d1 d2 d3 d4 p p1 p2 p3 p4,args = #[v,v1,v2,v3,v4]∧ds=[d,d1,d2,d3,d4]∧ps=p++p1++p2++p3++p4∧DataW.Trod enc P w base spare held t v d p∧DataW.Trod enc P w base spare held t1 v1 d1 p1∧DataW.Trod enc P w base spare held t2 v2 d2 p2∧DataW.Trod enc P w base spare held t3 v3 d3 p3∧DataW.Trod enc P w base spare held t4 v4 d4 p4:=by
 obtain ⟨v,vs,d,ds0,p,q,hargs,rfl,rfl,hd,hrest⟩:=trodAll_cons h
 obtain ⟨v1,vs1,d1,ds1,p1,q1,rfl,rfl,rfl,hd1,hrest1⟩:=trodAll_cons hrest
 obtain ⟨v2,vs2,d2,ds2,p2,q2,rfl,rfl,rfl,hd2,hrest2⟩:=trodAll_cons hrest1
 obtain ⟨v3,vs3,d3,ds3,p3,q3,rfl,rfl,rfl,hd3,hrest3⟩:=trodAll_cons hrest2
 obtain ⟨v4,vs4,d4,ds4,p4,q4,rfl,rfl,rfl,hd4,hrest4⟩:=trodAll_cons hrest3
 obtain ⟨rfl,rfl,rfl⟩:=trodAll_nil hrest4
 exact ⟨v,v1,v2,v3,v4,d,d1,d2,d3,d4,p,p1,p2,p3,p4,by cases args;simp_all,rfl,by simp,hd,hd1,hd2,hd3,hd4⟩
theorem mk5 {H:Type} {enc:TypeId × Value→H} {P:Program} {w:World} {base:Nat} {sp:Nat→Bool} {held:Bool} {t t1 t2 t3 t4:TypeId} {v v1 v2 v3 v4:Value} {d d1 d2 d3 d4:DataW H} (h:DataW.Trod enc P w base sp held t v d []) (h1:DataW.Trod enc P w base sp held t1 v1 d1 []) (h2:DataW.Trod enc P w base sp held t2 v2 d2 []) (h3:DataW.Trod enc P w base sp held t3 v3 d3 []) (h4:DataW.Trod enc P w base sp held t4 v4 d4 []):
  DataW.TrodAll enc P w base sp held [t,t1,t2,t3,t4] [v,v1,v2,v3,v4] [d,d1,d2,d3,d4] []:=⟨[],[],h,mk4 h1 h2 h3 h4,rfl⟩
structure BkS (w:World) (fb:Nat) (v vb:Value) (l:List ByteArray) (d text b H KY:ByteArray) (wi:World):Prop where
 f:FileR fb v vb l d text b H KY wi
 tb:Tabs wi
 be:Below w.heap.size w wi
theorem BkS.after {w:World} {fb:Nat} {v vb:Value} {l:List ByteArray} {d text b H KY:ByteArray} {wi wj:World} (h:BkS w fb v vb l d text b H KY wi) (hb:Below wi.heap.size wi wj):BkS w fb v vb l d text b H KY wj:=
 ⟨⟨h.f.blk.below hb h.f.blk.lt,h.f.ms.after hb,h.f.bx.after hb⟩,h.tb.after hb,h.be.trans (hb.mono h.be.size)⟩
set_option maxRecDepth 100000 in
set_option maxHeartbeats 1600000 in
theorem backLaw_any (s t u:ByteArray) (a c:Int) (w:World) (hs:s.size≤maxLen) (ht:t.size≤maxLen) (a1 : -9223372036854775808≤a) (a2:a≤9223372036854775807) (c1 : -9223372036854775808≤c) (c2:c≤9223372036854775807) (hT:Tabs w):
  Calls Tryz.prog 3 #[.string s,.string t,.string u,.int .i64 a,.int .i64 c] w fun e w'=>e = .returned (.bool true)∧Below w.heap.size w w':=by
 unfold maxLen at hs ht
 by_cases h1:268435456<s.size
 ·have z1:(decide ((268435456:Int)<(s.size:Int)))=true:=by simp;omega
  go_enter Tryz.func3,Tryz.ntmps3
  go_wp2
  go_ret
  exact ⟨rfl,Below.refl _ _⟩
 ·have z1:(decide ((268435456:Int)<(s.size:Int)))=false:=by simp;omega
  by_cases h2:268435456<u.size
  ·have z2:(decide ((268435456:Int)<(u.size:Int)))=true:=by simp;omega
   go_enter Tryz.func3,Tryz.ntmps3
   go_wp2
   go_ret
   exact ⟨rfl,Below.refl _ _⟩
  ·have z2:(decide ((268435456:Int)<(u.size:Int)))=false:=by simp;omega
   have HF:=hide (made_any s t a c w hT (by omega) (by omega) a1 a2 c1 c2)
   have HX:=hide (show s.size≤268435456 by omega)
   have HU:=hide (show u.size≤268435456 by omega)
   go_enter Tryz.func3,Tryz.ntmps3
   go_wp2_with fail
   refine HF.out.mono ?_
   rintro e w1 ⟨fb,v,vb,l,d,rfl,_,h1,h3,hm,hd,hR,hb1,ht1⟩
   have hF:=file_facts l d s h1 h3 hd
   have HK1:=hide (show BkS w fb v vb l d s (fileB l d s) (Ref.head l d 0) (Ref.pkey l d 0) w1 from ⟨hR,ht1,hb1⟩)
   obtain ⟨ao,cp,rfl⟩:=hR.ms.len
   have hbz:(fileB l d s).size≤1099511627776:=by
    have e1:=hF.bz
    have e2:=hF.hs
    have e3:=Ref.encF_len (key:=(Ref.pkey l d 0).data.toList) (by rw[ba_len,hF.ky]) s.data.toList
    have e4:=Ref.full_nums s.data.toList.length
    have e5:s.data.toList.length=s.size:=ba_len _
    omega
   have HBZ:=hide hbz
   generalize fileB l d s=b at *
   generalize Ref.head l d 0=H at *
   generalize Ref.pkey l d 0=KY at *
   generalize Ref.pdraw l d 0=PD at *
   generalize Ref.fkey l d 0=FK at *
   generalize Ref.macB l (cuts d 0 l.length) FK.data.toList=mac at *
   generalize Ref.bodsL l (cuts d 0 l.length) FK.data.toList l.length=bods at *
   generalize cuts d 0 l.length=ss at *
   have HFF:=hide hF
   have HM:=hide hm
   have HH:=hide (And.intro h1 h3)
   obtain ⟨n,hn⟩:∃ n:Nat,l.length=n:=⟨_,rfl⟩
   have HN:=hide hn
   rw[hn] at HFF HK1 HH
   have hn3:n≤3:=by omega
   clear HF hR hm hd ht1 hb1 hF hbz hn h1 h3 hT
   go_wp2
   go_loopw [13] (fun vi wr=>∃ i:Nat,i≤n∧vi = .int .i64 (i:Nat)∧BkS w fb (.slice ao n cp) vb l d s b H KY wr) (fun vi _=>n-(intOf vi).toNat)
   case atStart=>exact ⟨0,Nat.zero_le _,rfl,HK1.out⟩
   case round=>
    clear HK1
    obtain ⟨i,hi,rfl,hK⟩:=hrel
    have HK:=hide hK
    have q0:=hK.f.blk.cell (i:=0) rfl
    have q3:=hK.f.blk.cell (i:=3) rfl
    have hfl:=hK.f.blk.lt
    by_cases hlt:i<n
    ·have jl:(i:Int)<(n:Int):=by omega
     obtain ⟨g,o,c',hv,hgl,e1⟩:=hK.f.ms.at i (by rw[HN.out];exact hlt)
     injection hv with hv hvn hvc
     clear hvn
     subst hv
     subst hvc
     have hm32:(l.getD i ⟨#[]⟩).size=32:=by
      have hil:i<l.length:=by rw[HN.out];exact hlt
      rw[List.getD_eq_getElem?_getD,List.getElem?_eq_getElem hil]
      exact HM.out _ (List.getElem_mem hil)
     have hdc:=decrypt_any (l.getD i ⟨#[]⟩) b wr.drew (hK.tb.after ⟨rfl,rfl,rfl,Nat.le_refl _,fun _ _=>rfl⟩) HBZ.out
     unfold ansV at hdc
     have HDC:=hide hdc
     clear hdc
     have HDE:=hide (fun a (h:DecP (l.getD i ⟨#[]⟩).data.toList b a)=>HFF.out.dec hn3 i hlt (by unfold Hd.at_;rw[ba_len,hm32]) (show DecP (Hd.at_ l i) b a from h))
     have HSL:=hide (fun (w':World) (k:BkS w fb (.slice (some ⟨g,o,none⟩) n cp) vb l d s b H KY w')=>slipped_any fb (.slice (some ⟨g,o,none⟩) n cp) vb l d s b H PD KY FK ss bods mac n i w' k.tb HH.out.1 HH.out.2 hlt HM.out HFF.out k.f)
     have HLT:=hide hlt
     generalize l.getD i ⟨#[]⟩=mi at *
     clear hK hi hm32 hlt
     go_wp2
     go_region_held3 (fun w'=>w'.cell? ⟨fb,0,none⟩=some (.slice (some ⟨g,o,none⟩) n cp)∧w'.cell? ⟨g,o+i,none⟩=some (.string mi)∧w'.cell? ⟨fb,3,none⟩=some (.string b)) (refine ⟨?_,?_,?_⟩ <;> first | assumption | (exact (hb5.cell hfl).trans (by assumption)) | (exact (hb5.cell hgl).trans (by assumption))) ((go_at_call 8;refine HDC.out.mono ?_;rintro e w5 ⟨⟨at_,ae⟩,hD,rfl,hb5⟩))
     rename_i hH
     clear hH
     have hbd:Below wr.heap.size wr w5:=(show Below wr.heap.size wr wr.drew from ⟨rfl,rfl,rfl,Nat.le_refl _,fun _ _=>rfl⟩).trans hb5
     have K5:=hide (HK.out.after hbd)
     have HS5:=hide (HSL.out w5 K5.out)
     have hor:=HDE.out (at_,ae) hD
     clear hb5 hbd HK HDC HDE HSL q0 q3 e1 hgl hfl hD
     rcases hor with hor | hor
     ·obtain rfl:at_=s.data.toList:=congrArg Prod.fst hor
      obtain rfl:ae=0:=congrArg Prod.snd hor
      have hse:(⟨s.data.toList.toArray⟩:ByteArray)=s:=ba_ext rfl
      clear hor
      go_wp2_with fail
      refine HS5.out.mono ?_
      rintro e w6 ⟨bb,rfl,_,hb6⟩
      have K6:=hide (K5.out.after hb6)
      clear HS5 K5 hb6
      go_wp2
      go_roundw
      case rel=>exact ⟨i+1,HLT.out,by go_num,K6.out⟩
      case measure=>have:=HLT.out;simp[intOf];omega
     ·generalize (⟨at_.toArray⟩:ByteArray)=tb at *
      by_cases hz:ae=0
      ·subst hz
       by_cases he:tb=s
       ·rw[he]
        clear he
        go_wp2_with fail
        refine HS5.out.mono ?_
        rintro e w6 ⟨bb,rfl,hsl,hb6⟩
        obtain rfl:=hsl hor
        have K6:=hide (K5.out.after hb6)
        clear HS5 K5 hb6 hsl hor
        go_wp2
        go_roundw
        case rel=>exact ⟨i+1,HLT.out,by go_num,K6.out⟩
        case measure=>have:=HLT.out;simp[intOf];omega
       ·have zt:(tb.toList==s.toList)=false:=str_ne (fun e=>he (ba_ext e))
        clear he
        go_wp2_with fail
        refine HS5.out.mono ?_
        rintro e w6 ⟨bb,rfl,hsl,hb6⟩
        obtain rfl:=hsl hor
        have K6:=hide (K5.out.after hb6)
        clear HS5 K5 hb6 hsl hor
        go_wp2
        go_roundw
        case rel=>exact ⟨i+1,HLT.out,by go_num,K6.out⟩
        case measure=>have:=HLT.out;simp[intOf];omega
      ·have zz:(ae==0)=false:=beq_eq_false_iff_ne.2 hz
       clear hz
       go_wp2_with fail
       refine HS5.out.mono ?_
       rintro e w6 ⟨bb,rfl,hsl,hb6⟩
       obtain rfl:=hsl hor
       have K6:=hide (K5.out.after hb6)
       clear HS5 K5 hb6 hsl hor
       go_wp2
       go_roundw
       case rel=>exact ⟨i+1,HLT.out,by go_num,K6.out⟩
       case measure=>have:=HLT.out;simp[intOf];omega
    ·obtain rfl:i=n:=by omega
     have jl:¬ (i:Int)<(i:Int):=by omega
     have HRS:=hide (reads_any fb _ vb l d s b H PD KY FK ss bods mac i a u _ hK.tb HH.out.1 HH.out.2 HM.out HX.out HU.out HFF.out hK.f a1 a2)
     have HSW:=hide (fun (w':World) (k:BkS w fb (.slice ao i cp) vb l d s b H KY w')=>slow_any fb _ vb l d s b H PD KY FK ss bods mac i u w' k.tb HH.out.1 HH.out.2 HM.out HX.out HU.out HFF.out k.f)
     clear hK q3
     go_wp2_with fail
     refine HRS.out.mono ?_
     rintro e w6 ⟨rfl,hb6⟩
     have K6:=hide (HK.out.after hb6)
     have HS6:=hide (HSW.out w6 K6.out)
     clear HRS HSW hb6 HK
     go_wp2_with fail
     refine HS6.out.mono ?_
     rintro e w7 ⟨rfl,hb7⟩
     have K7:=hide (K6.out.after hb7)
     clear HS6 hb7 K6
     go_wp2
     go_ret
     exact ⟨rfl,K7.out.be⟩
set_option maxRecDepth 100000 in
theorem back_contract (H:Type) (enc:TypeId × Value→H) (W:World) (base:Nat) (args:Array Value) (ds gs:List (DataW H)) (before:List MemPlace)
  (hval:∀ (j:Nat) t v,Tryz.f3.params[j]? = some t→args[j]? = some v→Value.okWide Tryz.prog W .any base t v)
  (hW:DataW.Whole enc Tryz.prog Tryz.f3.params.toList Rows.backSpec.vars false W args.toList ds gs before)
  (hL:laidMetH Tryz.prog Rows.backRow.laid W):
  Calls Tryz.prog 3 args W fun e W'=>∃ v,e = .returned v∧Rows.backSpec.post enc Tryz.prog Tryz.f3 false true false false W args v W':=by
 have hW':=hW
 obtain ⟨p,q,hA0,hV,rfl,hfz,hnd⟩:=hW
 have hA:DataW.TrodAll enc Tryz.prog W 0 (fun _=>true) true Tryz.f3.params.toList args.toList ds p:=hA0
 rw[Tryz.params3] at hA hval
 obtain ⟨v0,v1,v2,v3,v4,d0,d1,d2,d3,d4,p0,p1,p2,p3,p4,rfl,rfl,rfl,h0,h1,h2,h3,h4⟩:=trodAll_five hA
 obtain ⟨rfl,rfl⟩:=trodVars_none hV
 obtain ⟨s,rfl,rfl,rfl,hs⟩:=open_text (hval 0 9 v0 rfl rfl) h0
 obtain ⟨t,rfl,rfl,rfl,ht⟩:=open_text (hval 1 9 v1 rfl rfl) h1
 obtain ⟨u,rfl,rfl,rfl,hu⟩:=open_text (hval 2 9 v2 rfl rfl) h2
 obtain ⟨a,rfl,rfl,rfl,hia⟩:=open_intA (hval 3 3 v3 rfl rfl) h3
 obtain ⟨c,rfl,rfl,rfl,hic⟩:=open_intA (hval 4 3 v4 rfl rfl) h4
 clear hA0 hfz hnd
 simp only[List.append_nil] at hW'
 obtain ⟨hh,hk⟩:=tabs2 hL
 have h2:2≤W.heap.size:=World.block_lt_of_cell? W _ (hk 0 (by decide))
 refine (backLaw_any s t u a c W hs ht (wfB hia).1 (wfB hia).2 (wfB hic).1 (wfB hic).2 ⟨hk,hh,h2⟩).mono fun e W' ⟨he,hb⟩=>?_
 subst he
 refine ⟨_,rfl,_,_,_,[],[],[],hW',?_,mk5 (shut_text hs) (shut_text ht) (shut_text hu) (shut_intA hia) (shut_intA hic),rfl,hb.frame _,fun h=>by cases h⟩
 exact trodAll_mk1 (shut_bool Tryz.underlying4 _)
theorem back_laid_met (os:Os):laidMet Tryz.prog Rows.backRow.laid ((laidWorld Tryz.prog os).forCall (fun _ _=>0) ⟨#[],#[.string ⟨#[]⟩,.string ⟨#[]⟩,.string ⟨#[]⟩,.int .i64 0,.int .i64 0],[]⟩).memory:=
 laidMet_of_run' 8 (by kernel_rfl) (by kernel_rfl)
theorem back_reads (os:Os) {H:Type} (enc:TypeId × Value→H):∃ places,DataW.whole enc Tryz.prog ((laidWorld Tryz.prog os).forCall (fun _ _=>0) ⟨#[],#[.string ⟨#[]⟩,.string ⟨#[]⟩,.string ⟨#[]⟩,.int .i64 0,.int .i64 0],[]⟩).memory Tryz.f3.params.toList Rows.backSpec.vars false #[Value.string ⟨#[]⟩,Value.string ⟨#[]⟩,Value.string ⟨#[]⟩,Value.int .i64 0,Value.int .i64 0].toList 8=some ([.lit (.string []),.lit (.string []),.lit (.string []),.lit (.int .i64 0),.lit (.int .i64 0)],[],places):=
 ⟨[],by kernel_rfl⟩
set_option maxRecDepth 100000 in
theorem back_lifted (os:Os) (started:os.Started) (H:Type) (enc:TypeId × Value→H) (F:Stop.Interp):
  ReturnsInHanded {} Tryz.checked os 3 .any ((OpenSpec.ofChange Rows.backSpec).preRow enc Tryz.prog Tryz.f3 Rows.backRow.domain false Rows.backRow.laid) (((OpenSpec.ofChange Rows.backSpec).at F).post enc Tryz.prog Tryz.f3 false true false false):=by
 obtain ⟨places,hx⟩:=back_reads os enc
 refine returnsInHanded_of_row (C:=Tryz.checked) (s:=OpenSpec.ofChange Rows.backSpec) own started (by kernel_rfl) Tryz.func3
  (witness_row_at (enc:=enc) (C:=Tryz.checked) false (laidWorld Tryz.prog os) #[.string ⟨#[]⟩,.string ⟨#[]⟩,.string ⟨#[]⟩,.int .i64 0,.int .i64 0] rfl (by kernel_rfl) (by kernel_rfl) (by kernel_rfl)
   (OpenSpec.preRow_of_cond 8 hx (by kernel_rfl) (fun k hk=>by cases hk) (by kernel_rfl) (back_laid_met os))) ?_
 intro W base args ds gs before hval hW _ _ _ hL _ _
 exact back_contract H enc W base args ds gs before hval hW hL
theorem back_j1:Tryz.prog.inPlace 3=Rows.backRow.inPlace:=by kernel_rfl
theorem back_j2:Tryz.prog.unfollowed 3=Rows.backRow.unfollowed:=by kernel_rfl
theorem back_j3:Tryz.prog.recurses 3=Rows.backRow.recurses:=by kernel_rfl
theorem back_j4:Tryz.prog.varsNamed 3=Rows.backRow.named:=by kernel_rfl
theorem back_j:joinedFacts Tryz.prog 3 Tryz.f3 (OpenSpec.ofChange Rows.backSpec).bare Rows.backRow=true:=by
 unfold joinedFacts
 rw[back_j1,back_j2,back_j3,back_j4]
 kernel_rfl
theorem back_said:Rows.BackSaid:=
 OpenClaim.holds_of_cond 3 Tryz.f3 rfl rfl rfl rfl rfl rfl rfl ⟨rfl,rfl,rfl,rfl,rfl⟩ rfl rfl rfl rfl rfl (by kernel_rfl) Tryz.func3 back_j
  (of_decide_eq_true (by kernel_rfl)) (by unfold Func.isWrapper;first | (rw[if_pos (by decide +kernel)];kernel_rfl) | (rw[if_neg (by decide +kernel)];exact ⟨rfl,rfl⟩))
  (fun os started H enc _ F=>by rw[OpenClaim.pre_eq_preRow];exact back_lifted os started H enc F)
theorem back_plain (f : FuncId) (fn : Func) (hf : Tryz.pinned.checked.prog.funcNamed "strongbox/strongboxkeep.Back" = some f) (hfn : Tryz.pinned.checked.prog.funcs[f]? = some fn) :
  false = Tryz.pinned.checked.prog.looks []∧∀ (j:Nat) t,fn.params[j]? = some t→Tryz.pinned.checked.prog.wantsStandIn t=false:=by
 obtain rfl : f = 3 := Option.some.inj ((show Tryz.prog.funcNamed "strongbox/strongboxkeep.Back" = some 3 by kernel_rfl).symm.trans hf) |>.symm
 obtain rfl:fn = Tryz.f3:=(Option.some.inj (Tryz.func3.symm.trans hfn)).symm
 refine ⟨by kernel_rfl,fun j t ht=>?_⟩
 rw[Tryz.params3] at ht
 have hm:t=9∨t=3:=by simpa using Array.mem_of_getElem? ht
 rcases hm with rfl | rfl
 ·exact (show Tryz.prog.wantsStandIn 9=false by kernel_rfl)
 ·exact (show Tryz.prog.wantsStandIn 3=false by kernel_rfl)
theorem back_card:Rows.BackCardSaid:=
 Claim7.holds_tied_plain_at .later [] _ _ _ _ (back_said) (fun _ h=>by cases h) (by kernel_rfl) (fun _ h=>by cases h) back_row_tie rfl ⟨rfl,rfl⟩ (by kernel_rfl) rfl back_plain (by kernel_rfl)
end Go.Proofs.YtoifalcpfnacnaaGreatDoor
