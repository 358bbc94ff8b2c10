import Derived.Lib.AppendStr
import Derived.Test.YtoifalcpfnacnaaGreatDoorBe7
namespace Go.Proofs.YtoifalcpfnacnaaGreatDoor
open Go.RowKit
namespace Ref
def bodsL (l ss:List ByteArray) (key:List UInt8) (k:Nat):List ByteArray:=(List.range k).map fun i=>⟨(wrapL (Hd.at_ l i) (Hd.at_ ss i) key).toArray⟩
theorem bodsL_succ (l ss:List ByteArray) (key:List UInt8) (k:Nat):bodsL l ss key (k+1)=bodsL l ss key k++[⟨(wrapL (Hd.at_ l k) (Hd.at_ ss k) key).toArray⟩]:=by simp[bodsL,List.range_succ]
theorem bodsL_len (l ss:List ByteArray) (key:List UInt8) (k:Nat):(bodsL l ss key k).length=k:=by simp[bodsL]
theorem bodsL_at (l ss:List ByteArray) (key:List UInt8) (k i:Nat) (hi:i<k):(bodsL l ss key k).getD i ⟨#[]⟩=⟨(wrapL (Hd.at_ l i) (Hd.at_ ss i) key).toArray⟩:=by
 rw[List.getD_eq_getElem?_getD,List.getElem?_eq_getElem (by rw[bodsL_len];exact hi)]
 exact (List.getElem_map _).trans (by rw[List.getElem_range])
def macB (l ss:List ByteArray) (key:List UInt8):ByteArray:=⟨(macH key ss (bodsL l ss key l.length)).toArray⟩
def header (l ss:List ByteArray) (key:List UInt8):List UInt8:=Hd.text ss (bodsL l ss key l.length) (macB l ss key)
theorem macB_size (l ss:List ByteArray) (key:List UInt8):(macB l ss key).size=32:=by
 unfold macB macH
 rw[two_size,macL_len]
theorem okHead {l ss:List ByteArray} {key:List UInt8} (h0:l.length≠0) (h3:¬ 3<l.length) (hs:ss.length=l.length) (hz:∀ i,i<l.length→(ss.getD i ⟨#[]⟩).size=16) (hk:key.length=16) (m:ByteArray) (hm:m.size=32):
  Hd.Ok ss (bodsL l ss key l.length) m where
 n0:=by rw[hs];exact h0
 n3:=by rw[hs];exact h3
 nb:=by rw[bodsL_len,hs]
 hs:=fun i hi=>hz i (by rw[←hs];exact hi)
 hb:=fun i hi=>by rw[bodsL_at _ _ _ _ _ (by rw[←hs];exact hi),two_size,wrapL_len,hk]
 hm:=hm
theorem text_top {ss bs:List ByteArray} {m:ByteArray} (h:Hd.Ok ss bs m):(Hd.text ss bs m).take ((Hd.text ss bs m).length-45)=Hd.body ss bs:=by
 have e:(Hd.text ss bs m).length=(Hd.body ss bs).length+45:=by
  unfold Hd.text
  simp only[List.length_append,List.length_cons,List.length_nil]
  rw[h.at_m]
 rw[e,Nat.add_sub_cancel]
 unfold Hd.text
 simp only[List.append_assoc]
 exact List.take_left
end Ref
set_option maxRecDepth 100000 in
set_option maxHeartbeats 3200000 in
theorem makeHeader_any (v1 v2:Value) (l ss:List ByteArray) (key:ByteArray) (w:World) (ht:Tabs w) (h1:Strs w v1 l) (h2:Strs w v2 ss) (hn0:l.length≠0) (hn3:¬ 3<l.length) (hs:ss.length=l.length)
  (hm:∀ i,i<l.length→(l.getD i ⟨#[]⟩).size=32) (hz:∀ i,i<l.length→(ss.getD i ⟨#[]⟩).size=16) (hk:key.size=16):
  Calls Tryz.prog 82 #[v1,v2,.string key] w fun e w'=>e = .returned (.tuple #[.string ⟨(Ref.header l ss key.data.toList).toArray⟩,.int .i64 0])∧Below w.heap.size w w':=by
 have hok:=fun m hm=>Ref.okHead (key:=key.data.toList) hn0 hn3 hs hz (by rw[ba_len,hk]) m hm
 have HOK:=hide hok
 obtain ⟨ao,cp,rfl⟩:=h1.len
 obtain ⟨bo,dp,rfl⟩:=h2.len
 have HS1:=hide h1
 have HS2:=hide h2
 have HT:=hide ht
 have HHS:=hide hs
 rw[hs]
 obtain ⟨n,hn⟩:∃ n:Nat,l.length=n:=⟨_,rfl⟩
 have HNN:=hide hn
 rw[hn] at hn0 hn3 hm hz ⊢
 have HM:=hide hm
 have HZ:=hide hz
 clear h1 h2 ht hs hn hok hm hz
 go_enter Tryz.func82,Tryz.ntmps82
 go_wp2
 go_loopw [8,9] (fun v vi wr=>∃ k:Nat,k≤n∧vi = .int .i64 (k:Nat)∧Row wr w.heap.size 9 1 v k (strV (Ref.bodsL l ss key.data.toList k))∧Below w.heap.size w wr) (fun _ i _=>n-(intOf i).toNat)
 case atStart=>exact ⟨0,Nat.zero_le _,rfl,Row.empty _ _ (heap_alloc_new _ _) _ (Nat.le_refl _),(Below.refl _ _).alloc (Nat.le_refl _) _⟩
 case round=>
  obtain ⟨k,hkn,rfl,hr,hbe⟩:=hrel
  have hsz:=hbe.size
  by_cases hlt:k<n
  ·have jk:(k:Int)<(n:Int):=by omega
   obtain ⟨g,o,c,hv1,hgl,e1⟩:=HS1.out.at k (by rw[HNN.out];exact hlt)
   injection hv1 with hv1 _ hv1c
   subst hv1
   subst hv1c
   obtain ⟨g2,o2,c2,hv2,hgl2,e2⟩:=HS2.out.at k (by rw[HHS.out,HNN.out];exact hlt)
   injection hv2 with hv2 _ hv2c
   subst hv2
   subst hv2c
   have f1:=(hbe.cell hgl).trans e1
   have f2:=(hbe.cell hgl2).trans e2
   have z1:=HM.out k hlt
   have z2:=HZ.out k hlt
   have hnx:=Ref.bodsL_succ l ss key.data.toList k
   unfold Hd.at_ at hnx
   generalize l.getD k ⟨#[]⟩=mk at *
   generalize ss.getD k ⟨#[]⟩=sk at *
   have HW:=hide (wrap_any mk sk key wr.drew ((HT.out.after hbe).below (B:=2) ⟨rfl,rfl,rfl,Nat.le_refl _,fun _ _=>rfl⟩ (Nat.le_refl _)) (by omega) (by omega) (by omega))
   generalize Ref.wrapL mk.data.toList sk.data.toList key.data.toList=WL at *
   have HNX:=hide hnx
   have HR:=hide hr
   have HBE:=hide hbe
   have HLT:=hide hlt
   obtain ⟨bo3,bc3,rfl,hd1,hd2⟩:=Row.anyN hr
   unfold maxLen at hd2
   have hgw:g<wr.heap.size:=Nat.lt_of_lt_of_le hgl hsz
   have hgw2:g2<wr.heap.size:=Nat.lt_of_lt_of_le hgl2 hsz
   clear hr hbe e1 e2 z1 z2 hnx hlt hgl hgl2 hkn
   go_wp2
   go_region_held3 (fun w'=>w'.cell? ⟨g,o+k,none⟩=some (.string mk)∧w'.cell? ⟨g2,o2+k,none⟩=some (.string sk)) (refine ⟨?_,?_⟩ <;> first | assumption | (exact (hb2.cell hgw).trans (by assumption)) | (exact (hb2.cell hgw2).trans (by assumption))) ((go_at_call 112;refine HW.out.mono ?_;rintro e w2 ⟨rfl,hb2⟩))
   rename_i hH
   clear hH
   have hbd:Below wr.heap.size wr w2:=(show Below wr.heap.size wr wr.drew from ⟨rfl,rfl,rfl,Nat.le_refl _,fun _ _=>rfl⟩).trans hb2
   have HR2:=hide (Row.after HR.out hbd)
   have B2:=hide (HBE.out.trans (hbd.mono hsz))
   have hsz2:=B2.out.size
   clear hb2 hbd HR HBE HW f1 f2
   go_wp2_with (at_builtin;refine wpList_append_strB rfl (.tmp 44) (.tmp 46) rfl w.heap.size _ k _ rfl (HR2.out.alloc _) w2.heap.size _ rfl (World.cell?_alloc_at _ _ _ _ rfl) ?_ ?_ ?_;omega;(simp;omega);intro v3 w3 hr3 hg3 hat3)
   go_roundw
   case rel=>
    have:=HLT.out
    refine ⟨k+1,by omega,by go_num,?_,Below.grown (B2.out.alloc hsz2 _) hg3 (by simp;omega) (fun k hk=>(HR2.out.lt k hk).1)⟩
    rw[HNX.out]
    exact hr3
   case measure=>have:=HLT.out;simp[intOf];omega
  ·obtain rfl:k=n:=by omega
   have jk:¬ (k:Int)<(k:Int):=by omega
   have HN:Hid (∀ w,Calls Tryz.prog 113 #[.int .i64 32] w fun e w'=>e = .returned (.string ⟨(nought 32).toArray⟩)∧Below w.heap.size w w'):=hide (fun w=>noughts_any 32 w (by decide))
   have hbl:(Ref.bodsL l ss key.data.toList l.length).length=k:=by rw[Ref.bodsL_len,HNN.out]
   have hsl:ss.length=k:=by rw[HHS.out,HNN.out]
   have HO1:=HOK.out ⟨(nought 32).toArray⟩ rfl
   have HO2:=HOK.out (Ref.macB l ss key.data.toList) (Ref.macB_size _ _ _)
   have htl:=HO1.text_len
   have htp:=Ref.text_top HO1
   have hmb:Ref.macB l ss key.data.toList=⟨(macL (Ref.keyL key.data.toList [] Ref.inHead) (Hd.body ss (Ref.bodsL l ss key.data.toList l.length))).toArray⟩:=rfl
   have hhd:Ref.header l ss key.data.toList=Hd.text ss (Ref.bodsL l ss key.data.toList l.length) (Ref.macB l ss key.data.toList):=rfl
   rw[show Ref.bodsL l ss key.data.toList k=Ref.bodsL l ss key.data.toList l.length by rw[HNN.out]] at hr
   have HP1:=hide (fun v1 v2 w' (h1:Strs w' v1 ss) (h2:Strs w' v2 (Ref.bodsL l ss key.data.toList l.length))=>pPrint_any v1 v2 ⟨(nought 32).toArray⟩ ss (Ref.bodsL l ss key.data.toList l.length) w' h1 h2 (by omega) (by omega))
   have HP2:=hide (fun v1 v2 w' (h1:Strs w' v1 ss) (h2:Strs w' v2 (Ref.bodsL l ss key.data.toList l.length))=>pPrint_any v1 v2 (Ref.macB l ss key.data.toList) ss (Ref.bodsL l ss key.data.toList l.length) w' h1 h2 (by omega) (by omega))
   rw[Hd.prAns_ok HO1] at HP1
   rw[Hd.prAns_ok HO2,←hhd] at HP2
   have HMO:=hide (fun (w':World) (t:Tabs w')=>macOf_any key ⟨(Hd.text ss (Ref.bodsL l ss key.data.toList l.length) ⟨(nought 32).toArray⟩).toArray⟩ w' t (by omega) (by rw[ba_size];omega) (by rw[ba_size];omega))
   rw[two_toList,ba_size,htp,←hmb] at HMO
   obtain ⟨HD,hHD⟩:∃ x,Ref.header l ss key.data.toList=x:=⟨_,rfl⟩
   rw[hHD] at HP2
   have HHD:=hide hHD
   clear hHD hhd
   generalize Ref.macB l ss key.data.toList=MB at *
   generalize Hd.text ss (Ref.bodsL l ss key.data.toList l.length) ⟨(nought 32).toArray⟩=DR at *
   generalize Ref.bodsL l ss key.data.toList l.length=BS at *
   have hr':Row wr w.heap.size 9 1 u8 BS.length (strV BS):=by rw[hbl];exact hr
   have HR:=hide hr'
   have HBE:=hide hbe
   have HBL:=hide hbl
   have HSL:=hide hsl
   obtain ⟨bo3,bc3,rfl,hd1,hd2⟩:=Row.anyN hr
   unfold maxLen at hd2
   have hst2:Strs w (.slice bo k dp) ss:=by
    have h9:=HS2.out
    rw[hsl] at h9
    exact h9
   have HST2:=hide hst2
   clear hr hr' hbe hbl hsl HO1 HO2 htl htp hmb hlt hkn HOK hst2 HS1 HS2 HM HZ
   go_wp2_with fail
   refine (HN.out _).mono ?_
   rintro e w2 ⟨rfl,hb2⟩
   have B2:=hide (HBE.out.trans (hb2.mono hsz))
   have R2:=hide (Row.after HR.out hb2)
   clear hb2 HBE HR HN
   have hb3:Below w2.heap.size w2 (w2.alloc (.cells #[.slice bo k dp,.slice bo3 k bc3,.string ⟨(nought 32).toArray⟩] 70)):=(Below.refl _ _).alloc (Nat.le_refl _) _
   have hB3:Blk (w2.alloc (.cells #[.slice bo k dp,.slice bo3 k bc3,.string ⟨(nought 32).toArray⟩] 70)) w2.heap.size 70 [.slice bo k dp,.slice bo3 k bc3,.string ⟨(nought 32).toArray⟩]:=Blk.new rfl rfl
   have B3:=hide (B2.out.trans (hb3.mono B2.out.size))
   have R3:=hide (Row.after R2.out hb3)
   have S3:=hide (HST2.out.below B3.out HST2.out.blt)
   have HB3:=hide hB3
   have HPR1:=hide (HP1.out _ _ _ S3.out (Row.strs R3.out))
   have hw2:w.heap.size≤w2.heap.size:=B2.out.size
   have HROW:=hide (fun g hg=>(R2.out.lt g hg).2)
   clear hb3 hB3 B2 R2 HP1
   go_wp2_with fail
   refine HPR1.out.mono ?_
   rintro e w4 ⟨rfl,hb4⟩
   have B4:=hide (B3.out.trans (hb4.mono B3.out.size))
   have R4:=hide (Row.after R3.out hb4)
   have HB4:=hide (HB3.out.below hb4 HB3.out.lt)
   clear hb4 B3 R3 S3 HB3 HPR1
   have HMO4:=hide (HMO.out w4 (HT.out.after B4.out))
   clear HMO
   go_wp2_with fail
   refine HMO4.out.mono ?_
   rintro e w5 ⟨rfl,hb5⟩
   have B5:=hide (B4.out.trans (hb5.mono B4.out.size))
   have R5:=hide (Row.after R4.out hb5)
   have HB5:=hide (HB4.out.below hb5 HB4.out.lt)
   clear hb5 B4 R4 HB4 HMO4
   have c0:=HB5.out.cell (i:=0) rfl
   have c1:=HB5.out.cell (i:=1) rfl
   have c2:=HB5.out.cell (i:=2) rfl
   have f5:=HB5.out.frozen
   have hG6:=(World.grownBy.refl w5 (some w2.heap.size)).setCell 2 (.string MB)
   have hB6:=HB5.out.setCell_same 2 (.string MB)
   have B6:=hide (B5.out.trans (RowKit.Below.of_grown hG6 hw2 B5.out.size))
   have hne:(Value.slice bo3 k bc3).ownBlock=none∨(Value.slice bo3 k bc3).ownBlock≠some w2.heap.size:=.inr (by
    intro e
    have h9:=HROW.out _ e
    omega)
   have R6:=hide (R5.out.kept hG6 hne)
   have S6:=hide (HST2.out.below B6.out HST2.out.blt)
   have HPR2:=hide (HP2.out _ _ _ S6.out (Row.strs R6.out))
   have d0:=hB6.cell (i:=0) rfl
   have d1:=hB6.cell (i:=1) rfl
   have d2:=hB6.cell (i:=2) rfl
   clear hG6 hB6 hne B5 R5 R6 S6 HP2 HROW HB5
   go_wp2_with fail
   refine HPR2.out.mono ?_
   rintro e w7 ⟨rfl,hb7⟩
   have B7:=hide (B6.out.trans (hb7.mono B6.out.size))
   clear hb7 HPR2 B6
   go_wp2
   refine bodyPost_ret (results_tmp2 rfl _ _ _) rfl ?_
   exact ⟨by rw[HHD.out];rfl,B7.out⟩
namespace Ref
def beginE (l:List ByteArray) (s:ByteArray) (p:Nat):Int:=if chkM l≠0 then chkM l else if p+16*(l.length+2)≤s.size then 0 else 15
def beginP (l:List ByteArray) (s:ByteArray) (p:Nat):Nat:=if chkM l≠0 then p else p+16*canDraw s p (l.length+2)
def fkey (l:List ByteArray) (s:ByteArray) (p:Nat):ByteArray:=s.extract (p+16*l.length) (p+16*l.length+16)
def pdraw (l:List ByteArray) (s:ByteArray) (p:Nat):ByteArray:=s.extract (p+16*(l.length+1)) (p+16*(l.length+1)+16)
def pkey (l:List ByteArray) (s:ByteArray) (p:Nat):ByteArray:=⟨(keyL (fkey l s p).data.toList (pdraw l s p).data.toList inBody).toArray⟩
def head (l:List ByteArray) (s:ByteArray) (p:Nat):ByteArray:=⟨(header l (cuts s p l.length) (fkey l s p).data.toList).toArray⟩
theorem chkM_ok {l:List ByteArray} (h:chkM l=0):l.length≠0∧¬ 3<l.length∧∀ i,i<l.length→(l.getD i ⟨#[]⟩).size=32:=by
 unfold chkM at h
 split at h
 ·cases h
 ·rename_i h1
  split at h
  ·cases h
  ·rename_i h2
   exact ⟨fun e=>h1 (.inl e),fun e=>h1 (.inr e),fun i hi=>Decidable.byContradiction fun e=>h2 ⟨i,hi,e⟩⟩
theorem chkM_cases (l:List ByteArray):chkM l=0∨chkM l=1∨chkM l=2:=by
 unfold chkM
 split
 ·exact .inr (.inr rfl)
 ·split
  ·exact .inr (.inl rfl)
  ·exact .inl rfl
theorem cuts_size {s:ByteArray} {p n:Nat} (h:p+16*n≤s.size):∀ i,i<n→((cuts s p n).getD i ⟨#[]⟩).size=16:=by
 intro i hi
 rw[List.getD_eq_getElem?_getD,List.getElem?_eq_getElem (by rw[cuts_len];exact hi)]
 have e:(cuts s p n)[i]'(by rw[cuts_len];exact hi)=s.extract (p+16*i) (p+16*i+16):=(List.getElem_map _).trans (by rw[List.getElem_range])
 show ((cuts s p n)[i]'(by rw[cuts_len];exact hi)).size=16
 rw[e,ByteArray.size_extract]
 omega
end Ref
def Begun (b:Nat) (s:ByteArray) (p:Nat) (l:List ByteArray) (w:World) (e:Ending) (w':World):Prop:=∃ hd dr ky,
 e = .returned (.tuple #[.agg #[.string hd,.string dr,.string ky],.int .i64 (Ref.beginE l s p)])∧(Ref.beginE l s p=0→hd=Ref.head l s p∧dr=Ref.pdraw l s p∧ky=Ref.pkey l s p) ∧
  Blk w' b 94 (springCells s (Ref.beginP l s p))∧w.grownBy w' (some b)
theorem infoBg:(Tryz.prog.info? 98).map (·.size)=some 3:=by kernel_rfl
theorem ret_bg {fn:Func} (hf:fn.results = #[.cell 4 98,.tmp 5]) (tmps:Array Value) (w:World) (b:Nat) (x y z:ByteArray) (hp:tmps.getD 4 undef = .pointer (some ⟨b,0,none⟩)) (hB:Blk w b 98 [.string x,.string y,.string z]):
  (results fn tmps).run Tryz.prog w = .ok (.tuple #[.agg #[.string x,.string y,.string z],tmps.getD 5 undef]) w:=by
 rw[results_cell_tmp hf,hp]
 simp only[asAddr,Result.andThen,Sem.run_pure]
 rw[run_loadVar_row w b 98 98 #[.string x,.string y,.string z] _ _ hB Tryz.underlying98 rfl infoBg]
theorem three_one (x y z:ByteArray):(#[.string x,.string y,.string z]:Array Value).all (·.oneCell')=true:=by simp[Value.oneCell']
structure BG (b:Nat) (s:ByteArray) (q:Nat) (w:World) (v:Value) (l:List ByteArray) (wi:World):Prop where
 rb:Blk wi w.heap.size 98 [.string ⟨#[]⟩,.string ⟨#[]⟩,.string ⟨#[]⟩]
 sp:Blk wi b 94 (springCells s q)
 gr:w.grownBy wi (some b)
 tb:Tabs wi
 st:Strs wi v l
section
variable {b q:Nat} {s:ByteArray} {w wi wj:World} {v:Value} {l:List ByteArray}
theorem BG.after (h:BG b s q w v l wi) (hb:Below wi.heap.size wi wj):BG b s q w v l wj:=
 ⟨h.rb.below hb h.rb.lt,h.sp.below hb h.sp.lt,grown_below h.gr hb,h.tb.after hb,h.st.after hb⟩
theorem BG.drawn {q':Nat} (h:BG b s q w v l wi) (hbl:b<w.heap.size) (h2b:2≤b) (hvb:∀ g o n c,v = .slice (some ⟨g,o,none⟩) n c→0<l.length→g≠b) (hg:wi.grownBy wj (some b)) (hB:Blk wj b 94 (springCells s q')):BG b s q' w v l wj:=
 ⟨h.rb.grown hg (fun e=>by injection e with e;omega),hB,grown_trans h.gr hg (fun k hk=>.inr (by injection hk with hk;exact hk.symm)),h.tb.grown hg h2b,h.st.grown hg hvb⟩
end
set_option maxRecDepth 100000 in
set_option maxHeartbeats 3200000 in
theorem vbegin_any (v:Value) (l:List ByteArray) (b:Nat) (s:ByteArray) (p:Nat) (w:World) (ht:Tabs w) (hv:Strs w v l) (hvb:∀ g o n c,v = .slice (some ⟨g,o,none⟩) n c→0<l.length→g≠b) (hl:l.length≤1099511627776)
  (hb:Blk w b 94 (springCells s p)) (h2b:2≤b) (hp:p≤s.size) (hs:s.size<1125899906842624):
  Calls Tryz.prog 48 #[v,.pointer (some ⟨b,0,none⟩)] w (Begun b s p l w):=by
 have hbl:=hb.lt
 have hbA:Below w.heap.size w (w.alloc (.cells #[.string ⟨#[]⟩,.string ⟨#[]⟩,.string ⟨#[]⟩] 98)):=(Below.refl _ _).alloc (Nat.le_refl _) _
 have hBK:Blk (w.alloc (.cells #[.string ⟨#[]⟩,.string ⟨#[]⟩,.string ⟨#[]⟩] 98)) w.heap.size 98 [.string ⟨#[]⟩,.string ⟨#[]⟩,.string ⟨#[]⟩]:=Blk.new rfl rfl
 have HCM:=hide (checkMasters_any v l _ (hv.after hbA) hl)
 have hcc:=Ref.chkM_cases l
 by_cases hc0:Ref.chkM l=0
 ·obtain ⟨hn0,hn3,hm⟩:=Ref.chkM_ok hc0
  have hE:Ref.beginE l s p=if p+16*(l.length+2)≤s.size then 0 else 15:=by unfold Ref.beginE;rw[if_neg (by rw[hc0];simp)]
  have hP:Ref.beginP l s p=p+16*canDraw s p (l.length+2):=by unfold Ref.beginP;rw[if_neg (by rw[hc0];simp)]
  rw[hc0] at HCM
  have hv1:Strs (w.alloc (.cells #[.string ⟨#[]⟩,.string ⟨#[]⟩,.string ⟨#[]⟩] 98)) v l:=hv.after hbA
  have HV0:=hide (BG.mk hBK (hb.alloc _) (grown_below (World.grownBy.refl w (some b)) hbA) (ht.after hbA) hv1:BG b s p w v l (w.alloc (.cells #[.string ⟨#[]⟩,.string ⟨#[]⟩,.string ⟨#[]⟩] 98)))
  have hvb':=hvb
  have HVB:=hide hvb
  have hfk:(Ref.fkey l s p)=s.extract (p+16*l.length) (p+16*l.length+16):=rfl
  have hpd:(Ref.pdraw l s p)=s.extract (p+16*(l.length+1)) (p+16*(l.length+1)+16):=rfl
  have hpk:Ref.pkey l s p=⟨(Ref.keyL (Ref.fkey l s p).data.toList (Ref.pdraw l s p).data.toList Ref.inBody).toArray⟩:=rfl
  have hhd:Ref.head l s p=⟨(Ref.header l (cuts s p l.length) (Ref.fkey l s p).data.toList).toArray⟩:=rfl
  have HM:=hide hm
  obtain ⟨ao,cp,hve⟩:=hv.len
  obtain ⟨n,hn⟩:∃ n:Nat,l.length=n:=⟨_,rfl⟩
  have HNN:=hide hn
  rw[hn] at hn0 hn3 hE hP hfk hpd hhd hve
  subst hve
  have HMH:=hide (fun (v2:Value) (w':World) (t:Tabs w') (a1:Strs w' (.slice ao n cp) l) (a2:Strs w' v2 (cuts s p n)) (hz:p+16*n≤s.size) (hkz:(Ref.fkey l s p).size=16)=>makeHeader_any (.slice ao n cp) v2 l (cuts s p n) (Ref.fkey l s p) w' t a1 a2 (by rw[HNN.out];exact hn0) (by rw[HNN.out];exact hn3) (by rw[cuts_len,HNN.out]) HM.out (by rw[HNN.out];exact Ref.cuts_size hz) hkz)
  rw[←hhd] at HMH
  have HKY:=hide (fun (w':World) (t:Tabs w') (h1:(Ref.fkey l s p).size≤1000) (h2:(Ref.pdraw l s p).size≤1000)=>kKey_any (Ref.fkey l s p) (Ref.pdraw l s p) ⟨#[112,97,121,108,111,97,100]⟩ w' (by omega) (by omega) (by decide) t.k t.h t.two)
  rw[show (expO (macL (Ref.pdraw l s p).data.toList (Ref.fkey l s p).data.toList) (⟨#[112,97,121,108,111,97,100]⟩:ByteArray).data.toList 1).take 32=Ref.keyL (Ref.fkey l s p).data.toList (Ref.pdraw l s p).data.toList Ref.inBody from rfl,←hpk] at HKY
  have hfz:p+16*(n+1)≤s.size→(Ref.fkey l s p).size=16:=fun h=>by rw[hfk,ByteArray.size_extract];omega
  have hpz:p+16*(n+2)≤s.size→(Ref.pdraw l s p).size=16:=fun h=>by rw[hpd,ByteArray.size_extract];omega
  have HFZ:=hide hfz
  have HPZ:=hide hpz
  have HEQ:=hide (And.intro hfk hpd)
  generalize hX1:Ref.head l s p=HDR at *
  generalize hX2:Ref.pkey l s p=PKY at *
  generalize hX3:Ref.fkey l s p=FKY at *
  generalize hX4:Ref.pdraw l s p=PDR at *
  have HX:=hide (And.intro hX1 (And.intro hX2 hX4))
  have HDS:=hide (fun (w':World) (h:Blk w' b 94 (springCells s p))=>drawSalts_any n b s p w' h (by omega) hp hs)
  clear hX1 hX2 hX3 hX4 hfz hpz hfk hpd hpk hhd hn hvb hvb' hv hv1 hb ht hbA hBK hcc hc0 hm
  go_enter Tryz.func48,Tryz.ntmps48
  go_wp2_with fail
  refine HCM.out.mono ?_
  rintro e w1 ⟨rfl,m1,rfl⟩
  have W1:=hide (HV0.out.after (below_drewN (Below.refl _ _) m1))
  generalize (w.alloc (.cells #[.string ⟨#[]⟩,.string ⟨#[]⟩,.string ⟨#[]⟩] 98)).drewN m1=w1 at *
  have HDS1:=hide (HDS.out w1 W1.out.sp)
  clear HCM HV0 HDS
  go_wp2_with fail
  refine HDS1.out.mono ?_
  rintro e w2 ⟨v2,rfl,hrow,hB2,hG2⟩
  have W2:=hide (W1.out.drawn hbl h2b HVB.out hG2 hB2)
  have HROW:=hide hrow
  have hlt1:w.heap.size≤w1.heap.size:=W1.out.gr.size
  clear HDS1 hrow hB2 hG2 W1
  by_cases hq0:p+16*n≤s.size
  ·rw[if_pos hq0]
   have hcd:p+16*canDraw s p n=p+16*n:=by unfold canDraw;omega
   rw[hcd] at W2
   obtain ⟨q,hq⟩:∃ q,p+16*n=q:=⟨_,rfl⟩
   rw[hq] at W2 HEQ
   by_cases hq1:q+16≤s.size
   ·have HD1:=hide (draw_good b s q w2 W2.out.sp hs hq1)
    rw[←HEQ.out.1] at HD1
    obtain ⟨o2,c2,rfl,_⟩:=Row.anyN (HROW.out hq0)
    have HR2:=hide (HROW.out hq0)
    clear HROW
    go_wp2_with fail
    refine HD1.out.mono ?_
    rintro e w3 ⟨rfl,hB3,hG3⟩
    have W3:=hide (W2.out.drawn hbl h2b HVB.out hG3 hB3)
    have hne:(Value.slice o2 n c2).ownBlock=none∨(Value.slice o2 n c2).ownBlock≠some b:=by
     cases hv:(Value.slice o2 n c2).ownBlock with
     | none=>exact .inl rfl
     | some g=>
      refine .inr fun e=>?_
      injection e with e
      have:=(HR2.out.lt g hv).1
      omega
    have HR3:=hide (HR2.out.kept hG3 hne)
    clear HD1 hB3 hG3 W2 HR2
    by_cases hq2:q+16+16≤s.size
    ·have HD2:=hide (draw_good b s (q+16) w3 W3.out.sp hs hq2)
     have he2:PDR=s.extract (q+16) (q+16+16):=by rw[HEQ.out.2];congr 1 <;> omega
     rw[←he2] at HD2
     clear he2
     go_wp2_with fail
     refine HD2.out.mono ?_
     rintro e w4 ⟨rfl,hB4,hG4⟩
     have W4:=hide (W3.out.drawn hbl h2b HVB.out hG4 hB4)
     have HR4:=hide (HR3.out.kept hG4 hne)
     clear HD2 hB4 hG4 W3 HR3 hne
     have hr4:Row w4 w1.heap.size 9 1 (.slice o2 n c2) (cuts s p n).length (strV (cuts s p n)):=by rw[cuts_len];exact HR4.out
     have HST:=hide (Row.strs hr4)
     have HM4:=hide (HMH.out (.slice o2 n c2) w4 W4.out.tb W4.out.st HST.out hq0 (HFZ.out (by omega)))
     clear hr4 HMH HST
     go_wp2_with fail
     refine HM4.out.mono ?_
     rintro e w5 ⟨rfl,hb5⟩
     have W5:=hide (W4.out.after hb5)
     have HK5:=hide (HKY.out w5 W5.out.tb (by rw[HFZ.out (by omega)];decide) (by rw[HPZ.out (by omega)];decide))
     clear HM4 hb5 W4 HR4 HKY
     go_wp2_with fail
     refine HK5.out.mono ?_
     rintro e w6 ⟨rfl,hb6⟩
     have W6:=hide (W5.out.after hb6)
     clear HK5 hb6 W5
     have HE:=hide (show Ref.beginE l s p=0 by rw[hE,if_pos (by omega)])
     have HP:=hide (show Ref.beginP l s p=q+16+16 by rw[hP];unfold canDraw;omega)
     clear hE hP
     go_wp2_with (refine wpList_store_blk rfl 98 (.tmp 4) (.tmp 64) rfl w.heap.size 0 #[.string HDR,.string PDR,.string PKY] rfl rfl infoBg (three_one _ _ _) 98 [.string ⟨#[]⟩,.string ⟨#[]⟩,.string ⟨#[]⟩] W6.out.rb (Nat.le_refl 3) ?_;intro wz hBz hGz)
     have hBz2:Blk wz w.heap.size 98 [.string HDR,.string PDR,.string PKY]:=hBz
     refine bodyPost_ret (ret_bg rfl _ _ w.heap.size _ _ _ rfl hBz2) rfl ?_
     refine ⟨_,_,_,by rw[HE.out];rfl,fun _=>⟨HX.out.1.symm,HX.out.2.2.symm,HX.out.2.1.symm⟩,?_,grown_trans W6.out.gr hGz (fun k hk=>.inl (by injection hk with hk;omega))⟩
     rw[HP.out]
     exact W6.out.sp.grown hGz (fun e=>by injection e with e;omega)
    ·have HD2:=hide (draw_bad b s (q+16) w3 W3.out.sp hq1 hs (by omega))
     have HE:=hide (show Ref.beginE l s p=15 by rw[hE,if_neg (by omega)])
     have HP:=hide (show Ref.beginP l s p=q+16 by rw[hP];unfold canDraw;omega)
     clear hE hP
     go_wp2_with fail
     refine HD2.out.mono ?_
     rintro e w4 ⟨rfl,m4,rfl⟩
     have W4:=hide (W3.out.after (below_drewN (Below.refl _ _) m4))
     generalize w3.drewN m4=w4 at *
     clear HD2 W3 HR3
     go_wp2_with (refine wpList_store_blk rfl 98 (.tmp 4) (.tmp 45) rfl w.heap.size 0 #[.string ⟨#[]⟩,.string ⟨#[]⟩,.string ⟨#[]⟩] rfl rfl infoBg (three_one _ _ _) 98 [.string ⟨#[]⟩,.string ⟨#[]⟩,.string ⟨#[]⟩] W4.out.rb (Nat.le_refl 3) ?_;intro wz hBz hGz)
     have hBz2:Blk wz w.heap.size 98 [.string ⟨#[]⟩,.string ⟨#[]⟩,.string ⟨#[]⟩]:=hBz
     refine bodyPost_ret (ret_bg rfl _ _ w.heap.size _ _ _ rfl hBz2) rfl ?_
     refine ⟨_,_,_,by rw[HE.out];rfl,fun h=>absurd (HE.out.symm.trans h) (by decide),?_,grown_trans W4.out.gr hGz (fun k hk=>.inl (by injection hk with hk;omega))⟩
     rw[HP.out]
     exact W4.out.sp.grown hGz (fun e=>by injection e with e;omega)
   ·have HD1:=hide (draw_bad b s q w2 W2.out.sp (by omega) hs (by omega))
    have HE:=hide (show Ref.beginE l s p=15 by rw[hE,if_neg (by omega)])
    have HP:=hide (show Ref.beginP l s p=q by rw[hP];unfold canDraw;omega)
    obtain ⟨o2,c2,rfl,_⟩:=Row.anyN (HROW.out hq0)
    clear hE hP HROW
    go_wp2_with fail
    refine HD1.out.mono ?_
    rintro e w3 ⟨rfl,m3,rfl⟩
    have W3:=hide (W2.out.after (below_drewN (Below.refl _ _) m3))
    generalize w2.drewN m3=w3 at *
    clear HD1 W2
    go_wp2_with (refine wpList_store_blk rfl 98 (.tmp 4) (.tmp 36) rfl w.heap.size 0 #[.string ⟨#[]⟩,.string ⟨#[]⟩,.string ⟨#[]⟩] rfl rfl infoBg (three_one _ _ _) 98 [.string ⟨#[]⟩,.string ⟨#[]⟩,.string ⟨#[]⟩] W3.out.rb (Nat.le_refl 3) ?_;intro wz hBz hGz)
    have hBz2:Blk wz w.heap.size 98 [.string ⟨#[]⟩,.string ⟨#[]⟩,.string ⟨#[]⟩]:=hBz
    refine bodyPost_ret (ret_bg rfl _ _ w.heap.size _ _ _ rfl hBz2) rfl ?_
    refine ⟨_,_,_,by rw[HE.out];rfl,fun h=>absurd (HE.out.symm.trans h) (by decide),?_,grown_trans W3.out.gr hGz (fun k hk=>.inl (by injection hk with hk;omega))⟩
    rw[HP.out]
    exact W3.out.sp.grown hGz (fun e=>by injection e with e;omega)
  ·rw[if_neg hq0]
   have hcd:p+16*canDraw s p n=p+16*canDraw s p (n+2):=by unfold canDraw;omega
   rw[hcd] at W2
   have HE:=hide (show Ref.beginE l s p=15 by rw[hE,if_neg (by omega)])
   have HP:=hide hP
   clear hE hP HROW hcd
   go_wp2_with (refine wpList_store_blk rfl 98 (.tmp 4) (.tmp 27) rfl w.heap.size 0 #[.string ⟨#[]⟩,.string ⟨#[]⟩,.string ⟨#[]⟩] rfl rfl infoBg (three_one _ _ _) 98 [.string ⟨#[]⟩,.string ⟨#[]⟩,.string ⟨#[]⟩] W2.out.rb (Nat.le_refl 3) ?_;intro wz hBz hGz)
   have hBz2:Blk wz w.heap.size 98 [.string ⟨#[]⟩,.string ⟨#[]⟩,.string ⟨#[]⟩]:=hBz
   refine bodyPost_ret (ret_bg rfl _ _ w.heap.size _ _ _ rfl hBz2) rfl ?_
   refine ⟨_,_,_,by rw[HE.out];rfl,fun h=>absurd (HE.out.symm.trans h) (by decide),?_,grown_trans W2.out.gr hGz (fun k hk=>.inl (by injection hk with hk;omega))⟩
   rw[HP.out]
   exact W2.out.sp.grown hGz (fun e=>by injection e with e;omega)
 ·have hE:Ref.beginE l s p=Ref.chkM l:=by unfold Ref.beginE;rw[if_pos hc0]
  have hP:Ref.beginP l s p=p:=by unfold Ref.beginP;rw[if_pos hc0]
  have HE:=hide hE
  have HP:=hide hP
  have zc:(Ref.chkM l != 0)=true:=by rw[bne_iff_ne];exact hc0
  have HNE:=hide hc0
  obtain ⟨ao,cp,rfl⟩:=hv.len
  have HBA:=hide hbA
  have HBK:=hide hBK
  have HB:=hide (hb.alloc (.cells #[.string ⟨#[]⟩,.string ⟨#[]⟩,.string ⟨#[]⟩] 98))
  generalize Ref.chkM l=ce at *
  clear ht hv hvb hb hp hs hE hP hcc hc0 hbA hBK
  go_enter Tryz.func48,Tryz.ntmps48
  go_wp2_with fail
  refine HCM.out.mono ?_
  rintro e w1 ⟨rfl,m1,rfl⟩
  clear HCM
  go_wp2_with (refine wpList_store_blk rfl 98 (.tmp 4) (.tmp 16) rfl w.heap.size 0 #[.string ⟨#[]⟩,.string ⟨#[]⟩,.string ⟨#[]⟩] rfl rfl infoBg (three_one _ _ _) 98 [.string ⟨#[]⟩,.string ⟨#[]⟩,.string ⟨#[]⟩] (HBK.out.drewN m1) (Nat.le_refl 3) ?_;intro wz hBz hGz)
  have hBz2:Blk wz w.heap.size 98 [.string ⟨#[]⟩,.string ⟨#[]⟩,.string ⟨#[]⟩]:=hBz
  refine bodyPost_ret (ret_bg rfl _ _ w.heap.size _ _ _ rfl hBz2) rfl ?_
  have hBel:Below w.heap.size w wz:=(below_drewN HBA.out m1).trans (RowKit.Below.of_grown hGz (Nat.le_refl _) (below_drewN HBA.out m1).size)
  refine ⟨_,_,_,by rw[HE.out];rfl,fun h=>absurd (HE.out.symm.trans h) HNE.out,?_,grown_below (World.grownBy.refl w (some b)) hBel⟩
  rw[HP.out]
  exact (HB.out.drewN m1).grown hGz (fun e=>by injection e with e;omega)
structure Snk where
 got:ByteArray
 plan:List Int
 pos:Nat
def Snk.cells (k:Snk) (g:Nat):List Value:=sinkCells k.got g k.plan.length k.pos
def Snk.takes (k:Snk) (t:ByteArray):Nat:=(sinkN k.plan k.pos t.size).getD 0
def Snk.ok (k:Snk) (t:ByteArray):Bool:=decide (sinkN k.plan k.pos t.size=some t.size)
def Snk.err (k:Snk) (t:ByteArray):Int:=if k.ok t then 0 else 16
def Snk.put (k:Snk) (t:ByteArray):Snk:=⟨k.got++t.extract 0 (k.takes t),k.plan,sinkAt k.plan k.pos⟩
theorem Snk.err_cases (k:Snk) (t:ByteArray):(k.err t=0∧k.ok t=true)∨(k.err t=16∧k.ok t=false):=by
 unfold Snk.err
 cases k.ok t
 ·exact .inr ⟨rfl,rfl⟩
 ·exact .inl ⟨rfl,rfl⟩
theorem Snk.put_ok {k:Snk} {t:ByteArray} (h:k.ok t=true):(k.put t).got=k.got++t:=by
 have h1:sinkN k.plan k.pos t.size=some t.size:=of_decide_eq_true h
 unfold Snk.put Snk.takes
 rw[h1]
 show k.got++t.extract 0 t.size=_
 congr 1
 exact ba_ext (by rw[ext_take,List.take_of_length_le (by rw[ba_len];exact Nat.le_refl _)])
theorem Snk.takes_le (k:Snk) (t:ByteArray):k.takes t≤t.size:=by
 unfold Snk.takes
 cases h:sinkN k.plan k.pos t.size with
 | none=>exact Nat.zero_le _
 | some n=>exact sinkN_le h
theorem Snk.put_size (k:Snk) (t:ByteArray):(k.put t).got.size≤k.got.size+t.size:=by
 have h:=k.takes_le t
 unfold Snk.put
 rw[ba_sz,ByteArray.size_extract]
 omega
theorem Snk.put_pos (k:Snk) (t:ByteArray):(k.put t).pos≤k.pos+1:=by
 show sinkAt k.plan k.pos≤_
 unfold sinkAt
 split <;> omega
set_option maxHeartbeats 800000 in
theorem give_any (b g:Nat) (k:Snk) (t:ByteArray) (w:World) (hb:Blk w b 96 (k.cells g)) (hg:Blk w g 3 (intV k.plan)) (hs:k.got.size+t.size<1125899906842624) (hp:k.pos<1125899906842624):
  Calls Tryz.prog 49 #[.pointer (some ⟨b,0,none⟩),.string t] w fun e w'=>e = .returned (.int .i64 (k.err t))∧Blk w' b 96 ((k.put t).cells g)∧w.grownBy w' (some b):=by
 have HW:=hide (sinkWrite_any b g k.got t k.plan k.pos w hb hg hs hp)
 have hput:(k.put t).cells g=sinkCells (k.got++t.extract 0 ((sinkN k.plan k.pos t.size).getD 0)) g k.plan.length (sinkAt k.plan k.pos):=rfl
 rw[←hput] at HW
 have herr:k.err t=if sinkN k.plan k.pos t.size=some t.size then 0 else 16:=by unfold Snk.err Snk.ok;simp
 rw[herr]
 generalize (k.put t).cells g=PC at *
 clear hput herr hb hg hs hp
 cases hn:sinkN k.plan k.pos t.size with
 | none=>
  rw[hn] at HW
  simp only[if_true,Option.getD_none] at HW
  rw[if_neg (by simp)]
  clear hn
  go_enter Tryz.func49,Tryz.ntmps49
  go_wp2_with fail
  refine HW.out.mono ?_
  rintro e w1 ⟨rfl,hB,hG⟩
  have HB:=hide (And.intro hB hG)
  clear HW hB hG
  go_wp2
  go_ret
  exact ⟨rfl,HB.out⟩
 | some m=>
  have hle:=sinkN_le hn
  rw[hn] at HW
  simp only[reduceCtorEq,if_false,Option.getD_some] at HW
  by_cases hm:m=t.size
  ·rw[if_pos (by rw[hm])]
   have jm:¬ (m:Int)<(t.size:Int):=by omega
   clear hn hle hm
   go_enter Tryz.func49,Tryz.ntmps49
   go_wp2_with fail
   refine HW.out.mono ?_
   rintro e w1 ⟨rfl,hB,hG⟩
   have HB:=hide (And.intro hB hG)
   clear HW hB hG
   go_wp2
   go_ret
   exact ⟨rfl,HB.out⟩
  ·rw[if_neg (by intro e;injection e with e;exact hm e)]
   have jm:(m:Int)<(t.size:Int):=by omega
   clear hn hle hm
   go_enter Tryz.func49,Tryz.ntmps49
   go_wp2_with fail
   refine HW.out.mono ?_
   rintro e w1 ⟨rfl,hB,hG⟩
   have HB:=hide (And.intro hB hG)
   clear HW hB hG
   go_wp2
   go_ret
   exact ⟨rfl,HB.out⟩
def wrCells (sk:Value) (key:ByteArray) (n:Nat) (chunk:List UInt8) (count:Nat) (fin:Int):List Value:=[sk,.string key,.int .u64 (n:Nat)]++u8L chunk++[.int .i64 (count:Nat),.int .i64 fin]
structure Chg (S:Nat→Prop) (w w':World):Prop where
 os:w'.os=w.os
 tape:w'.tape=w.tape
 output:w'.output=w.output
 size:w.heap.size≤w'.heap.size
 block:∀ k,k<w.heap.size→¬ S k→w'.heap[k]? = w.heap[k]?
section
variable {S:Nat→Prop} {w w1 w2:World}
theorem Chg.refl (S:Nat→Prop) (w:World):Chg S w w:=⟨rfl,rfl,rfl,Nat.le_refl _,fun _ _ _=>rfl⟩
theorem Chg.trans (h1:Chg S w w1) (h2:Chg S w1 w2):Chg S w w2:=
 ⟨h2.os.trans h1.os,h2.tape.trans h1.tape,h2.output.trans h1.output,Nat.le_trans h1.size h2.size,fun k hk hs=>(h2.block k (Nat.lt_of_lt_of_le hk h1.size) hs).trans (h1.block k hk hs)⟩
theorem Chg.of_below (h:Below w.heap.size w w1):Chg S w w1:=⟨h.os,h.tape,h.output,h.size,fun k hk _=>h.block k hk⟩
theorem Chg.of_grown {b:Nat} (h:w.grownBy w1 (some b)) (hb:S b):Chg S w w1:=⟨h.os,h.tape,h.output,h.size,fun k hk hs=>h.block k hk (fun e=>hs (by injection e with e;rw[e];exact hb))⟩
theorem Chg.grew {b:Nat} (h1:Chg S w w1) (h:w1.grownBy w2 (some b)) (hb:S b∨w.heap.size≤b):Chg S w w2:=
 ⟨h.os.trans h1.os,h.tape.trans h1.tape,h.output.trans h1.output,Nat.le_trans h1.size h.size,fun k hk hs=>(h.block k (Nat.lt_of_lt_of_le hk h1.size) (fun e=>by
  injection e with e
  rcases hb with hb | hb
  ·exact hs (by rw[e];exact hb)
  ·omega)).trans (h1.block k hk hs)⟩
theorem Chg.blk (h:Chg S w w1) {g:Nat} {t:TypeId} {cs:List Value} (hB:Blk w g t cs) (hs:¬ S g):Blk w1 g t cs:=(h.block g hB.lt hs).trans hB
theorem Chg.tabs (h:Chg S w w1) (t:Tabs w) (h0:¬ S 0) (h1:¬ S 1):Tabs w1:=
 t.below (B:=2) ⟨h.os,h.tape,h.output,h.size,fun k hk=>h.block k (Nat.lt_of_lt_of_le hk t.two) (by
  match k,hk with
  | 0,_=>exact h0
  | 1,_=>exact h1)⟩ (Nat.le_refl _)
end
namespace Ref
def newE (l:List ByteArray) (s:ByteArray) (p:Nat) (k:Snk):Int:=if beginE l s p≠0 then beginE l s p else if k.ok (head l s p)=false then 16 else (k.put (head l s p)).err (pdraw l s p)
def newK (l:List ByteArray) (s:ByteArray) (p:Nat) (k:Snk):Snk:=if beginE l s p≠0 then k else if k.ok (head l s p)=false then k.put (head l s p) else (k.put (head l s p)).put (pdraw l s p)
end Ref
def NewW (l:List ByteArray) (b:Nat) (s:ByteArray) (p:Nat) (sk g:Nat) (k:Snk) (w:World) (e:Ending) (w':World):Prop:=∃ pv,
 e = .returned (.tuple #[pv,.int .i64 (Ref.newE l s p k)])∧(Ref.newE l s p k≠0→pv = .pointer none) ∧
  (Ref.newE l s p k=0→∃ wb,w.heap.size≤wb∧pv = .pointer (some ⟨wb,0,none⟩)∧Blk w' wb 105 (wrCells (.pointer (some ⟨sk,0,none⟩)) (Ref.pkey l s p) 0 (nought 16) 0 0)) ∧
  Blk w' sk 96 ((Ref.newK l s p k).cells g)∧Blk w' b 94 (springCells s (Ref.beginP l s p))∧Chg (fun x=>x=b∨x=sk) w w'
theorem Ref.head_size {l:List ByteArray} {s:ByteArray} {p:Nat} (h:Ref.beginE l s p=0):(Ref.head l s p).size≤1000∧(Ref.pdraw l s p).size≤1000:=by
 unfold Ref.beginE at h
 have hc:Ref.chkM l=0:=by
  by_cases hc:Ref.chkM l=0
  ·exact hc
  ·rw[if_pos hc] at h;exact absurd h hc
 rw[if_neg (by rw[hc];simp)] at h
 have hz:p+16*(l.length+2)≤s.size:=by
  by_cases hz:p+16*(l.length+2)≤s.size
  ·exact hz
  ·rw[if_neg hz] at h;cases h
 obtain ⟨h0,h3,_⟩:=Ref.chkM_ok hc
 have hfz:(Ref.fkey l s p).size=16:=by unfold Ref.fkey;rw[ByteArray.size_extract];omega
 have hO:=Ref.okHead (l:=l) (ss:=cuts s p l.length) (key:=(Ref.fkey l s p).data.toList) h0 h3 (cuts_len _ _ _) (Ref.cuts_size (by omega)) (by rw[ba_len,hfz]) (Ref.macB l (cuts s p l.length) (Ref.fkey l s p).data.toList) (Ref.macB_size _ _ _)
 refine ⟨?_,?_⟩
 ·show (⟨(Hd.text _ _ _).toArray⟩:ByteArray).size≤_
  rw[ba_size,hO.text_len,cuts_len]
  omega
 ·unfold Ref.pdraw
  rw[ByteArray.size_extract]
  omega
set_option maxRecDepth 100000 in
set_option maxHeartbeats 3200000 in
theorem newWriter_any (v:Value) (l:List ByteArray) (b:Nat) (s:ByteArray) (p sk g:Nat) (k:Snk) (w:World) (ht:Tabs w) (hv:Strs w v l) (hvb:∀ g o n c,v = .slice (some ⟨g,o,none⟩) n c→0<l.length→g≠b) (hl:l.length≤1099511627776)
  (hb:Blk w b 94 (springCells s p)) (h2b:2≤b) (hp:p≤s.size) (hs:s.size<1125899906842624)
  (hk:Blk w sk 96 (k.cells g)) (hg:Blk w g 3 (intV k.plan)) (hbk:b≠sk) (hbg:b≠g) (hgk:g≠sk) (hks:k.got.size+3000<1125899906842624) (hkp:k.pos+10<1125899906842624):
  Calls Tryz.prog 22 #[v,.pointer (some ⟨b,0,none⟩),.pointer (some ⟨sk,0,none⟩)] w (NewW l b s p sk g k w):=by
 have HBG:=hide (vbegin_any v l b s p w ht hv hvb hl hb h2b hp hs)
 have hbl:=hb.lt
 have hkl:=hk.lt
 have hgl:=hg.lt
 have HK:=hide hk
 have HG:=hide hg
 obtain ⟨ao,cp,rfl⟩:=hv.len
 clear ht hv hvb hb hk hg
 go_enter Tryz.func22,Tryz.ntmps22
 go_wp2_with fail
 refine HBG.out.mono ?_
 rintro e w1 ⟨hd,dr,ky,rfl,hval,hB1,hG1⟩
 have HK1:=hide (HK.out.grown hG1 (fun e=>hbk (by injection e with e;exact e.symm)))
 have HP1:=hide (HG.out.grown hG1 (fun e=>hbg (by injection e with e;exact e.symm)))
 have C1:=hide (Chg.of_grown (S:=fun x=>x=b∨x=sk) hG1 (.inl rfl))
 have HB1:=hide hB1
 have hsz1:=hG1.size
 clear HBG HK HG hB1 hG1
 obtain ⟨w2,hw2⟩:∃ x,w1.alloc (.cells #[.string hd,.string dr,.string ky] 98)=x:=⟨_,rfl⟩
 have hb12:Below w1.heap.size w1 w2:=by rw[←hw2];exact (Below.refl _ _).alloc (Nat.le_refl _) _
 have HS2:=hide (show Blk w2 w1.heap.size 98 [.string hd,.string dr,.string ky] by rw[←hw2];exact Blk.new rfl rfl)
 have HK2:=hide (HK1.out.below hb12 HK1.out.lt)
 have HP2:=hide (HP1.out.below hb12 HP1.out.lt)
 have HB2:=hide (HB1.out.below hb12 HB1.out.lt)
 have C2:=hide (C1.out.trans (Chg.of_below hb12))
 have hsz2:=hb12.size
 clear hb12 HK1 HP1 HB1 C1
 by_cases hE:Ref.beginE l s p=0
 ·obtain ⟨rfl,rfl,rfl⟩:=hval hE
  obtain ⟨hz1,hz2⟩:=Ref.head_size hE
  have hNE:Ref.newE l s p k=if k.ok (Ref.head l s p)=false then 16 else (k.put (Ref.head l s p)).err (Ref.pdraw l s p):=by unfold Ref.newE;rw[if_neg (by rw[hE];simp)]
  have hNK:Ref.newK l s p k=if k.ok (Ref.head l s p)=false then k.put (Ref.head l s p) else (k.put (Ref.head l s p)).put (Ref.pdraw l s p):=by unfold Ref.newK;rw[if_neg (by rw[hE];simp)]
  rw[hE]
  generalize hX1:Ref.head l s p=HDR at *
  generalize hX2:Ref.pdraw l s p=PDR at *
  generalize hX3:Ref.pkey l s p=PKY at *
  have HX3:=hide hX3
  have HG1:=hide (give_any sk g k HDR w2 HK2.out HP2.out (by omega) (by omega))
  have hc0:=HS2.out.cell (i:=0) rfl
  have hps:=k.put_size HDR
  have hpp:=k.put_pos HDR
  clear hX1 hX2 hX3 hE hval
  go_wp2_with fail
  refine HG1.out.mono ?_
  rintro e w3 ⟨rfl,hB3,hG3⟩
  have hkl2:sk<w2.heap.size:=HK2.out.lt
  have HK3:=hide hB3
  have HP3:=hide (HP2.out.grown hG3 (fun e=>hgk (by injection e)))
  have HB3:=hide (HB2.out.grown hG3 (fun e=>hbk (by injection e)))
  have HS3:=hide (HS2.out.grown hG3 (fun e=>by injection e with e;omega))
  have C3:=hide (C2.out.grew hG3 (.inl (.inr rfl)))
  have hsz3:=hG3.size
  clear HG1 hB3 hG3 HK2 HP2 HB2 HS2 C2 hc0 hw2
  rcases k.err_cases HDR with ⟨he,ho⟩ | ⟨he,ho⟩
  ·rw[he]
   rw[ho,if_neg (by simp)] at hNE hNK
   have HG2:=hide (give_any sk g (k.put HDR) PDR w3 HK3.out HP3.out (by omega) (by omega))
   have hc1:=HS3.out.cell (i:=1) rfl
   clear he ho
   go_wp2_with fail
   refine HG2.out.mono ?_
   rintro e w4 ⟨rfl,hB4,hG4⟩
   have HK4:=hide hB4
   have HB4:=hide (HB3.out.grown hG4 (fun e=>hbk (by injection e)))
   have HS4:=hide (HS3.out.grown hG4 (fun e=>by injection e with e;omega))
   have C4:=hide (C3.out.grew hG4 (.inl (.inr rfl)))
   have hsz4:=hG4.size
   clear HG2 hB4 hG4 HK3 HP3 HB3 HS3 C3 hc1
   rcases (k.put HDR).err_cases PDR with ⟨he,ho⟩ | ⟨he,ho⟩
   ·rw[he] at hNE ⊢
    have hc2:=HS4.out.cell (i:=2) rfl
    have HNE:=hide hNE
    have HNK:=hide hNK
    clear he ho hNE hNK
    have hbw:Below w4.heap.size w4 (w4.alloc (.cells (wrCells (.pointer (some ⟨sk,0,none⟩)) PKY 0 (nought 16) 0 0).toArray 105)):=(Below.refl _ _).alloc (Nat.le_refl _) _
    have HWB:=hide (show Blk (w4.alloc (.cells (wrCells (.pointer (some ⟨sk,0,none⟩)) PKY 0 (nought 16) 0 0).toArray 105)) w4.heap.size 105 (wrCells (.pointer (some ⟨sk,0,none⟩)) PKY 0 (nought 16) 0 0) from Blk.new rfl rfl)
    have HK5:=hide (HK4.out.below hbw HK4.out.lt)
    have HB5:=hide (HB4.out.below hbw HB4.out.lt)
    have C5:=hide (C4.out.trans (Chg.of_below hbw))
    clear hbw HK4 HB4 C4
    go_wp2
    refine bodyPost_ret (results_tmp2 rfl _ _ _) rfl ?_
    exact ⟨_,by rw[HNE.out];rfl,fun h=>absurd HNE.out h,fun _=>⟨w4.heap.size,by omega,rfl,by rw[HX3.out];exact HWB.out⟩,by rw[HNK.out];exact HK5.out,HB5.out,C5.out⟩
   ·rw[he] at hNE ⊢
    have HNE:=hide hNE
    have HNK:=hide hNK
    clear he ho hNE hNK HS4
    go_wp2
    refine bodyPost_ret (results_tmp2 rfl _ _ _) rfl ?_
    exact ⟨_,by rw[HNE.out];rfl,fun _=>rfl,fun h=>absurd (HNE.out.symm.trans h) (by decide),by rw[HNK.out];exact HK4.out,HB4.out,C4.out⟩
  ·rw[he]
   rw[ho,if_pos rfl] at hNE hNK
   have HNE:=hide hNE
   have HNK:=hide hNK
   clear he ho hNE hNK HS3 HP3
   go_wp2
   refine bodyPost_ret (results_tmp2 rfl _ _ _) rfl ?_
   exact ⟨_,by rw[HNE.out];rfl,fun _=>rfl,fun h=>absurd (HNE.out.symm.trans h) (by decide),by rw[HNK.out];exact HK3.out,HB3.out,C3.out⟩
 ·have HE:=hide (show Ref.newE l s p k=Ref.beginE l s p by unfold Ref.newE;rw[if_pos hE])
  have HN:=hide (show Ref.newK l s p k=k by unfold Ref.newK;rw[if_pos hE])
  have HNE:=hide hE
  have zE:(Ref.beginE l s p != 0)=true:=by rw[bne_iff_ne];exact hE
  generalize Ref.beginE l s p=BE at *
  clear hE hval hbk hbg hgk
  go_wp2_with fail
  refine bodyPost_ret (results_tmp2 rfl _ _ _) rfl ?_
  exact ⟨_,by rw[HE.out];rfl,fun _=>rfl,fun h=>absurd (HE.out.symm.trans h) HNE.out,by rw[HN.out];exact HK2.out,HB2.out,C2.out⟩
theorem wr_byte (sk:Value) (key:ByteArray) (n:Nat) (chunk:List UInt8) (count:Nat) (fin:Int) (i:Nat) (h:i<chunk.length):(wrCells sk key n chunk count fin)[3+i]? = some (.int .u8 ((chunk[i].toNat:Nat):Int)):=by
 unfold wrCells
 rw[List.append_assoc,List.getElem?_append_right (by simp),List.getElem?_append_left (by simp[u8L];exact h)]
 simp[u8L,h]
theorem wr_count (sk:Value) (key:ByteArray) (n:Nat) (chunk:List UInt8) (count:Nat) (fin:Int) (h:chunk.length=16):(wrCells sk key n chunk count fin)[19]? = some (.int .i64 (count:Nat)):=by
 unfold wrCells
 rw[List.getElem?_append_right (by simp[u8L,h])]
 simp[u8L,h]
theorem wr_fin (sk:Value) (key:ByteArray) (n:Nat) (chunk:List UInt8) (count:Nat) (fin:Int) (h:chunk.length=16):(wrCells sk key n chunk count fin)[20]? = some (.int .i64 fin):=by
 unfold wrCells
 rw[List.getElem?_append_right (by simp[u8L,h])]
 simp[u8L,h]
theorem wr_len (sk:Value) (key:ByteArray) (n:Nat) (chunk:List UInt8) (count:Nat) (fin:Int) (h:chunk.length=16):(wrCells sk key n chunk count fin).length=21:=by
 unfold wrCells
 simp[u8L,h]
theorem wr_set_count (sk:Value) (key:ByteArray) (n:Nat) (chunk:List UInt8) (count c2:Nat) (fin:Int) (h:chunk.length=16):(wrCells sk key n chunk count fin).set 19 (.int .i64 (c2:Nat))=wrCells sk key n chunk c2 fin:=by
 unfold wrCells
 rw[List.set_append_right _ _ (by simp[u8L,h])]
 simp[u8L,h]
theorem wr_set_n (sk:Value) (key:ByteArray) (n n2:Nat) (chunk:List UInt8) (count:Nat) (fin:Int):(wrCells sk key n chunk count fin).set 2 (.int .u64 (n2:Nat))=wrCells sk key n2 chunk count fin:=rfl
theorem wr_set_byte (sk:Value) (key:ByteArray) (n:Nat) (chunk:List UInt8) (count:Nat) (fin:Int) (i:Nat) (x:UInt8) (h:i<chunk.length):(wrCells sk key n chunk count fin).set (3+i) (.int .u8 ((x.toNat:Nat):Int))=wrCells sk key n (chunk.set i x) count fin:=by
 unfold wrCells
 rw[List.append_assoc,List.set_append_right _ _ (by simp),List.set_append_left _ _ (by simp[u8L];exact h),List.append_assoc]
 congr 2
 simp[u8L,List.map_set]
set_option maxRecDepth 100000 in
set_option maxHeartbeats 1600000 in
theorem text_any (wb:Nat) (sk:Value) (key:ByteArray) (n:Nat) (chunk:List UInt8) (count:Nat) (fin:Int) (w:World) (hB:Blk w wb 105 (wrCells sk key n chunk count fin)) (hc:chunk.length=16) (hn:count≤16):
  Calls Tryz.prog 114 #[.pointer (some ⟨wb,0,none⟩)] w fun e w'=>e = .returned (.string ⟨(chunk.take count).toArray⟩)∧Below w.heap.size w w':=by
 have hwl:=hB.lt
 have HB:=hide hB
 have HC:=hide hc
 clear hB hc
 go_enter Tryz.func114,Tryz.ntmps114
 go_wp2
 go_loopw [3,4] (fun v vi wr=>∃ i:Nat,i≤count∧vi = .int .i64 (i:Nat)∧Row wr w.heap.size 5 1 v i (u8L (chunk.take i))∧Below w.heap.size w wr) (fun _ i _=>count-(intOf i).toNat)
 case atStart=>exact ⟨0,Nat.zero_le _,rfl,by simpa [u8L] using Row.empty _ _ (heap_alloc_new _ _) _ (Nat.le_refl _),(Below.refl _ _).alloc (Nat.le_refl _) _⟩
 case round=>
  obtain ⟨i,hi,rfl,hr,hbe⟩:=hrel
  have hsz:=hbe.size
  have hBr:=HB.out.below hbe hwl
  have c19:=hBr.cell (wr_count sk key n chunk count fin HC.out)
  by_cases hlt:i<count
  ·have hil:i<chunk.length:=by rw[HC.out];omega
   have cb:=hBr.cell (wr_byte sk key n chunk count fin i hil)
   have hnx:chunk.take (i+1)=chunk.take i++[chunk[i]]:=List.take_succ_eq_append_getElem hil
   generalize chunk[i]=x at *
   have HNX:=hide hnx
   have HR:=hide hr
   have HBE:=hide hbe
   have HLT:=hide hlt
   have j1:(i:Int)<(count:Int):=by omega
   have j2:(i:Int)<16:=by omega
   obtain ⟨ao,cap,rfl,hd1,hd2⟩:=Row.anyN hr
   unfold maxLen at hd2
   clear hr hbe hBr hnx hil
   go_wp2_with (at_builtin;refine wpList_append_u8 rfl (.tmp 18) (.tmp 25) rfl w.heap.size _ i _ rfl (HR.out.alloc _) ⟨wr.heap.size,0,none⟩ 1 1 [x] rfl rfl (one_news rfl (World.cell?_alloc_at _ _ _ _ rfl)) ?_ ?_ ?_;omega;(simp;omega);intro v1 w1 hr1 hg1 hat1)
   go_roundw
   case rel=>
    have:=HLT.out
    refine ⟨i+1,by omega,by go_num,?_,Below.grown (HBE.out.alloc hsz _) hg1 (by simp;omega) (fun k hk=>(HR.out.lt k hk).1)⟩
    rw[HNX.out]
    exact hr1
   case measure=>have:=HLT.out;simp[intOf];omega
  ·obtain rfl:i=count:=by omega
   have j1:¬ (i:Int)<(i:Int):=by omega
   have HBE:=hide hbe
   obtain ⟨ao2,cap2,rfl,hd1,hd2,hcv⟩:=Row.strAny hr
   unfold maxLen at hd2
   clear hr hbe hBr hlt hi
   go_wp2
   go_ret
   exact ⟨rfl,HBE.out⟩
theorem infoWr:(Tryz.prog.info? 105).map (·.size)=some 21:=by kernel_rfl
theorem shut_one (e:Int):((wrCells (.pointer none) ⟨#[]⟩ 0 (nought 16) 0 e).toArray).all (·.oneCell')=true:=by simp[wrCells,u8L,nought,Value.oneCell']
set_option maxRecDepth 100000 in
set_option maxHeartbeats 1600000 in
theorem finish_any (wb:Nat) (old:List Value) (e:Int) (w:World) (hB:Blk w wb 105 old) (hl:old.length=21):
  Calls Tryz.prog 85 #[.pointer (some ⟨wb,0,none⟩),.int .i64 e] w fun _e w'=>(∃ v,_e = .returned v)∧Blk w' wb 105 (wrCells (.pointer none) ⟨#[]⟩ 0 (nought 16) 0 e)∧w.grownBy w' (some wb):=by
 have HB:=hide hB
 have HL:=hide hl
 clear hB hl
 go_enter Tryz.func85,Tryz.ntmps85
 go_wp2_with (refine wpList_store_blk rfl 105 (.tmp 7) (.tmp 6) rfl wb 0 (wrCells (.pointer none) ⟨#[]⟩ 0 (nought 16) 0 e).toArray rfl rfl infoWr (shut_one e) 105 old HB.out (by rw[HL.out];exact Nat.le_refl 21) ?_;intro wz hBz hGz)
 refine bodyPost_end (v:=.tuple #[]) (by simp[results,Tryz.results85]) rfl ?_
 refine ⟨⟨_,rfl⟩,?_,hGz⟩
 rw[laidOver_all _ _ (by rw[HL.out];rfl)] at hBz
 exact hBz
def Sent (wb sk g:Nat) (key:ByteArray) (n:Nat) (chunk:List UInt8) (k:Snk) (bx:ByteArray) (w:World) (e:Ending) (w':World):Prop:=
 e = .returned (.int .i64 (k.err bx))∧Blk w' sk 96 ((k.put bx).cells g) ∧
  Blk w' wb 105 (if k.ok bx then wrCells (.pointer (some ⟨sk,0,none⟩)) key (n+1) chunk 0 0 else wrCells (.pointer none) ⟨#[]⟩ 0 (nought 16) 0 16)∧Chg (fun x=>x=wb∨x=sk) w w'
set_option maxRecDepth 100000 in
set_option maxHeartbeats 3200000 in
theorem send_any (wb sk g:Nat) (key:ByteArray) (n:Nat) (chunk:List UInt8) (count:Nat) (last:Bool) (k:Snk) (w:World) (hB:Blk w wb 105 (wrCells (.pointer (some ⟨sk,0,none⟩)) key n chunk count 0)) (hkey:key.size=32) (hn:n+1≤1125899906842624) (hc:chunk.length=16) (hcn:count≤16)
  (hk:Blk w sk 96 (k.cells g)) (hg:Blk w g 3 (intV k.plan)) (hwk:wb≠sk) (hks:k.got.size+3000<1125899906842624) (hkp:k.pos+10<1125899906842624):
  Calls Tryz.prog 84 #[.pointer (some ⟨wb,0,none⟩),.bool last] w (Sent wb sk g key n chunk k ⟨(Ref.box key.data.toList n last (chunk.take count)).toArray⟩ w):=by
 have HTX:=hide (text_any wb _ key n chunk count 0 w hB hc hcn)
 have hbz:(⟨(Ref.box key.data.toList n last (chunk.take count)).toArray⟩:ByteArray).size≤1000:=by
  rw[ba_size]
  unfold Ref.box
  split
  ·rw[Box.sealed_len,List.length_take];omega
  ·exact Nat.zero_le _
 have HSC:=hide (fun w'=>sealChunk_any key n last ⟨(chunk.take count).toArray⟩ w' hkey (by omega) (by rw[ba_size,List.length_take];omega))
 rw[two_toList] at HSC
 have hwl:=hB.lt
 have hkl:=hk.lt
 have HB:=hide hB
 have HK:=hide hk
 have HG:=hide hg
 have HC:=hide hc
 generalize (⟨(Ref.box key.data.toList n last (chunk.take count)).toArray⟩:ByteArray)=BX at *
 generalize (⟨(chunk.take count).toArray⟩:ByteArray)=TX at *
 clear hB hk hg hc
 go_enter Tryz.func84,Tryz.ntmps84
 go_wp2_with fail
 refine HTX.out.mono ?_
 rintro e w1 ⟨rfl,hb1⟩
 have HB1:=hide (HB.out.below hb1 hwl)
 have HK1:=hide (HK.out.below hb1 hkl)
 have HG1:=hide (HG.out.below hb1 HG.out.lt)
 have C1:=hide (Chg.of_below (S:=fun x=>x=wb∨x=sk) hb1)
 have hwl1:wb<w1.heap.size:=HB1.out.lt
 clear HTX hb1 HB HK HG
 have c1:=HB1.out.cell (i:=1) rfl
 have c2:=HB1.out.cell (i:=2) rfl
 go_wp2
 go_region_held3 (fun w'=>w'.cell? ⟨wb,1,none⟩=some (.string key)∧w'.cell? ⟨wb,2,none⟩=some (.int .u64 (n:Nat))) (refine ⟨?_,?_⟩ <;> first | assumption | (exact (hb2.cell hwl1).trans (by assumption))) ((go_at_call 57;refine (HSC.out _).mono ?_;rintro e w2 ⟨rfl,hb2⟩))
 rename_i hH
 clear hH
 have hbd:Below w1.heap.size w1 w2:=(show Below w1.heap.size w1 w1.drew from ⟨rfl,rfl,rfl,Nat.le_refl _,fun _ _=>rfl⟩).trans hb2
 have HB2:=hide (HB1.out.below hbd hwl1)
 have HK2:=hide (HK1.out.below hbd HK1.out.lt)
 have HG2:=hide (HG1.out.below hbd HG1.out.lt)
 have C2:=hide (C1.out.trans (Chg.of_below hbd))
 clear hb2 hbd HB1 HK1 HG1 C1 HSC c1 c2
 have HGV:=hide (give_any sk g k BX w2 HK2.out HG2.out (by omega) (by omega))
 have c0:=HB2.out.cell (i:=0) rfl
 go_wp2_with fail
 refine HGV.out.mono ?_
 rintro e w3 ⟨rfl,hB3,hG3⟩
 have HK3:=hide hB3
 have HB3:=hide (HB2.out.grown hG3 (fun e=>hwk (by injection e)))
 have C3:=hide (C2.out.grew hG3 (.inl (.inr rfl)))
 clear HGV hB3 hG3 HK2 HG2 HB2 C2 c0
 rcases k.err_cases BX with ⟨he,ho⟩ | ⟨he,ho⟩
 ·rw[he]
  have HE:=hide he
  have HO:=hide ho
  clear he ho
  have c2:=HB3.out.cell (i:=2) rfl
  have f3:=HB3.out.frozen
  obtain ⟨n1,hn1⟩:∃ n1:Nat,n1=n+1:=⟨_,rfl⟩
  have t1:((n:Int)+1)%18446744073709551616=(n1:Int):=by omega
  have t2:(n:Int)+1=(n1:Int):=by omega
  have t3:(n1:Int)%18446744073709551616=(n1:Int):=by omega
  have hB4:=(HB3.out.setCell_same 2 (.int .u64 (n1:Nat))).setCell_same 19 (.int .i64 ((0:Nat):Int))
  rw[wr_set_n,wr_set_count _ _ _ _ _ _ _ HC.out] at hB4
  have hG4:=(((World.grownBy.refl w3 (some wb)).setCell 2 (.int .u64 (n1:Nat))).setCell 19 (.int .i64 ((0:Nat):Int)))
  have HB4:=hide hB4
  have HK4:=hide (HK3.out.grown hG4 (fun e=>hwk (by injection e with e;exact e.symm)))
  have C4:=hide (C3.out.grew hG4 (.inl (.inl rfl)))
  have HN1:=hide hn1
  have c19:=(HB3.out.setCell_same 2 (.int .u64 (n1:Nat))).cell (i:=19) (by rw[wr_set_n];exact wr_count _ _ _ _ _ _ HC.out)
  clear hB4 hG4 hn1 HK3 C3 HB3
  go_wp2
  go_ret
  exact ⟨by rw[HE.out];rfl,HK4.out,by rw[HO.out,if_pos rfl,←HN1.out];exact HB4.out,C4.out⟩
 ·rw[he]
  have HE:=hide he
  have HO:=hide ho
  clear he ho
  have HF:=hide (finish_any wb _ 16 w3 HB3.out (wr_len _ _ _ _ _ _ HC.out))
  go_wp2_with fail
  refine HF.out.mono ?_
  rintro e w4 ⟨⟨v4,rfl⟩,hB4,hG4⟩
  have HB4:=hide hB4
  have HK4:=hide (HK3.out.grown hG4 (fun e=>hwk (by injection e with e;exact e.symm)))
  have C4:=hide (C3.out.grew hG4 (.inl (.inl rfl)))
  clear HF hB4 hG4 HB3 HK3 C3
  go_wp2
  go_ret
  exact ⟨by rw[HE.out];rfl,HK4.out,by rw[HO.out];exact HB4.out,C4.out⟩
namespace Ref
structure Wr where
 n:Nat
 t:List UInt8
 k:Snk
def Wr.box (s:Wr) (key:List UInt8) (last:Bool):ByteArray:=⟨(Ref.box key s.n last s.t).toArray⟩
def Wr.step (s:Wr) (key:List UInt8) (x:UInt8):Option Wr:=
 if s.t.length=16 then (if s.k.ok (s.box key false) then some ⟨s.n+1,[x],s.k.put (s.box key false)⟩ else none) else some ⟨s.n,s.t++[x],s.k⟩
def Wr.at (s:Wr) (key:List UInt8) (p:List UInt8):Nat→Option Wr
 | 0=>some s
 | i+1=>(s.at key p i).bind fun r=>r.step key (p.getD i 0)
theorem box_size (key:List UInt8) (n:Nat) (last:Bool) (t:List UInt8):(box key n last t).length≤t.length+16:=by
 unfold box
 split
 ·rw[Box.sealed_len];exact Nat.le_refl _
 ·exact Nat.zero_le _
structure Wr.Fits (s r:Wr) (i:Nat):Prop where
 n:r.n≤s.n+i
 t:r.t.length≤16
 got:r.k.got.size≤s.k.got.size+32*i
 pos:r.k.pos≤s.k.pos+i
 plan:r.k.plan=s.k.plan
theorem Wr.at_fits (s:Wr) (ht:s.t.length≤16) (key p:List UInt8):∀ (i:Nat) (r:Wr),s.at key p i=some r→s.Fits r i
 | 0,r,h=>by
  have e:s=r:=Option.some.inj h
  subst e
  exact ⟨Nat.le_refl _,ht,Nat.le_refl _,Nat.le_refl _,rfl⟩
 | i+1,r,h=>by
  rw[Wr.at] at h
  cases hq:s.at key p i with
  | none=>rw[hq] at h;cases h
  | some q=>
   rw[hq] at h
   have ih:=Wr.at_fits s ht key p i q hq
   have h':q.step key (p.getD i 0)=some r:=h
   unfold Wr.step at h'
   split at h'
   ·rename_i h16
    split at h'
    ·have e:=Option.some.inj h'
     subst e
     have hz:=box_size key q.n false q.t
     have h1:=q.k.put_size (q.box key false)
     have h2:=q.k.put_pos (q.box key false)
     have h3:(q.box key false).size=(Ref.box key q.n false q.t).length:=ba_size _
     have g1:=ih.n
     have g2:=ih.got
     have g3:=ih.pos
     exact ⟨by show q.n+1≤_;omega,by show 1≤16;decide,by show (q.k.put _).got.size≤_;omega,by show (q.k.put _).pos≤_;omega,ih.plan⟩
    ·cases h'
   ·rename_i h16
    have e:=Option.some.inj h'
    subst e
    have g1:=ih.n
    have g2:=ih.got
    have g3:=ih.pos
    have g4:=ih.t
    exact ⟨by show q.n≤_;omega,by show (q.t++_).length≤16;rw[List.length_append];simp;omega,by show q.k.got.size≤_;omega,by show q.k.pos≤_;omega,ih.plan⟩
end Ref
structure WRep (wb sk g:Nat) (key:ByteArray) (s:Ref.Wr) (w:World):Prop where
 wr:∃ chunk:List UInt8,chunk.length=16∧chunk.take s.t.length=s.t∧Blk w wb 105 (wrCells (.pointer (some ⟨sk,0,none⟩)) key s.n chunk s.t.length 0)
 t16:s.t.length≤16
 sn:Blk w sk 96 (s.k.cells g)
 pl:Blk w g 3 (intV s.k.plan)
def WEnd (wb:Nat) (fin:Int) (w:World):Prop:=Blk w wb 105 (wrCells (.pointer none) ⟨#[]⟩ 0 (nought 16) 0 fin)
theorem chunk_put (chunk t:List UInt8) (x:UInt8) (h:chunk.take t.length=t) (hl:t.length<chunk.length):(chunk.set t.length x).take (t.length+1)=t++[x]:=by
 rw[List.take_succ_eq_append_getElem (by simpa using hl),List.getElem_set_self,List.take_set_of_le (Nat.le_refl _),h]
def WroteP (wb sk g:Nat) (key:ByteArray) (s:Ref.Wr) (p:ByteArray) (w:World) (e:Ending) (w':World):Prop:=
 (∃ r,s.at key.data.toList p.data.toList p.size=some r∧e = .returned (.tuple #[.int .i64 (p.size:Nat),.int .i64 0])∧WRep wb sk g key r w'∧Chg (fun x=>x=wb∨x=sk) w w') ∨
 (∃ i r,i<p.size∧s.at key.data.toList p.data.toList i=some r∧r.t.length=16∧r.k.ok (r.box key.data.toList false)=false∧e = .returned (.tuple #[.int .i64 (i:Nat),.int .i64 16])∧WEnd wb 16 w'∧Blk w' sk 96 ((r.k.put (r.box key.data.toList false)).cells g)∧Chg (fun x=>x=wb∨x=sk) w w')
set_option maxRecDepth 100000 in
set_option maxHeartbeats 3200000 in
theorem write_any (wb sk g:Nat) (key:ByteArray) (s:Ref.Wr) (p:ByteArray) (w:World) (hR:WRep wb sk g key s w) (hkey:key.size=32) (hwk:wb≠sk) (hwg:wb≠g) (hgk:g≠sk)
  (hn:s.n+p.size+10≤1125899906842624) (hgot:s.k.got.size+32*p.size+4000<1125899906842624) (hpos:s.k.pos+p.size+20<1125899906842624):
  Calls Tryz.prog 50 #[.pointer (some ⟨wb,0,none⟩),.string p] w (WroteP wb sk g key s p w):=by
 have HF:=hide (Ref.Wr.at_fits s hR.t16 key.data.toList p.data.toList)
 have HR0:=hide hR
 obtain ⟨ch0,hcl0,_,hB0⟩:=hR.wr
 have c20:=hB0.cell (wr_fin _ _ _ _ _ _ hcl0)
 clear hR hB0 hcl0
 go_enter Tryz.func50,Tryz.ntmps50
 go_wp2
 clear c20
 go_loopw [6] (fun vi wr=>∃ (i:Nat) (r:Ref.Wr),i≤p.size∧vi = .int .i64 (i:Nat)∧s.at key.data.toList p.data.toList i=some r∧WRep wb sk g key r wr∧Chg (fun x=>x=wb∨x=sk) w wr) (fun i _=>p.size-(intOf i).toNat)
 case atStart=>exact ⟨0,s,Nat.zero_le _,rfl,rfl,HR0.out,Chg.refl _ _⟩
 case round=>
  clear HR0
  obtain ⟨i,r,hi,rfl,hat,hR,hC⟩:=hrel
  have hfit:=HF.out i r hat
  have HAT:=hide hat
  have HC:=hide hC
  have HR:=hide hR
  clear hat hC
  obtain ⟨ch,hcl,htk,hB⟩:=hR.wr
  have hk:=hR.sn
  have hg:=hR.pl
  have ht16:=hR.t16
  have f1:=hfit.n
  have f2:=hfit.got
  have f3:=hfit.pos
  have hwl:=hB.lt
  clear hR hfit
  by_cases hlt:i<p.size
  ·have ji:(i:Int)<(p.size:Int):=by omega
   have c19:=hB.cell (wr_count _ _ _ _ _ _ hcl)
   have hil:i<p.data.toList.length:=by rw[ba_len];exact hlt
   have hpx:p.data.toList.getD i 0=p[i]'hlt:=by rw[byte_at p i hlt]
   have hnx:s.at key.data.toList p.data.toList (i+1)=r.step key.data.toList (p[i]'hlt):=by rw[Ref.Wr.at,HAT.out,←hpx];rfl
   have HNX:=hide hnx
   have HLT:=hide hlt
   by_cases h16:r.t.length=16
   ·have HSD:=hide (send_any wb sk g key r.n ch r.t.length false r.k _ hB hkey (by omega) hcl ht16 hk hg hwk (by omega) (by omega))
    rw[htk] at HSD
    have hbx:(⟨(Ref.box key.data.toList r.n false r.t).toArray⟩:ByteArray)=r.box key.data.toList false:=rfl
    rw[hbx] at HSD
    have j16:(16:Int)≤(r.t.length:Int):=by omega
    have H16:=hide h16
    have HCL:=hide hcl
    clear hB hk htk hcl hpx hnx h16 hbx hil
    go_wp2_with fail
    refine HSD.out.mono ?_
    rintro e w2 ⟨rfl,hK2,hW2,hC2⟩
    have HG2:=hide (hC2.blk hg (by rintro (e | e);exact hwg e.symm;exact hgk e))
    have HK2:=hide hK2
    have HC2:=hide (HC.out.trans hC2)
    clear HSD hK2 hC2 hg HR c19
    rcases r.k.err_cases (r.box key.data.toList false) with ⟨he,ho⟩ | ⟨he,ho⟩
    ·rw[ho,if_pos rfl] at hW2
     rw[he]
     have hst:r.step key.data.toList (p[i]'hlt)=some ⟨r.n+1,[p[i]'hlt],r.k.put (r.box key.data.toList false)⟩:=by unfold Ref.Wr.step;rw[if_pos H16.out,ho];rfl
     have HST:=hide (HNX.out.trans hst)
     have d19:=hW2.cell (wr_count _ _ _ _ _ _ HCL.out)
     have d3:=hW2.cell (wr_byte _ _ _ _ _ _ 0 (by rw[HCL.out];decide))
     have df:=hW2.frozen
     have hb3:=hW2.setCell_same (3+0) (.int .u8 (((p[i]'hlt).toNat:Nat):Int))
     rw[wr_set_byte _ _ _ _ _ _ 0 _ (by rw[HCL.out];decide)] at hb3
     have e19:=hb3.cell (wr_count _ _ _ _ _ _ (by rw[List.length_set];exact HCL.out))
     have hb4:=hb3.setCell_same 19 (.int .i64 ((1:Nat):Int))
     rw[wr_set_count _ _ _ _ _ _ _ (by rw[List.length_set];exact HCL.out)] at hb4
     have hG3:=(World.grownBy.refl w2 (some wb)).setCell (3+0) (.int .u8 (((p[i]'hlt).toNat:Nat):Int))
     have hG4:w2.grownBy (((w2.setCell ⟨wb,3,none⟩ (.int .u8 (((p[i]'hlt).toNat:Nat):Int))).setCell ⟨wb,19,none⟩ (.int .i64 ((1:Nat):Int))).drew) (some wb):=(hG3.setCell 19 (.int .i64 ((1:Nat):Int))).drewN 1
     have HREP:=hide (show WRep wb sk g key ⟨r.n+1,[p[i]'hlt],r.k.put (r.box key.data.toList false)⟩ (((w2.setCell ⟨wb,3,none⟩ (.int .u8 (((p[i]'hlt).toNat:Nat):Int))).setCell ⟨wb,19,none⟩ (.int .i64 ((1:Nat):Int))).drew) from
      ⟨⟨ch.set 0 (p[i]'hlt),by rw[List.length_set];exact HCL.out,chunk_put ch [] (p[i]'hlt) rfl (by rw[HCL.out];decide),hb4⟩,by show 1≤16;decide,HK2.out.grown hG4 (fun e=>hwk (by injection e with e;exact e.symm)),HG2.out.grown hG4 (fun e=>hwg (by injection e with e;exact e.symm))⟩)
     have HCH:=hide (HC2.out.grew hG4 (.inl (.inl rfl)))
     clear he ho hst hW2 hb3 hb4 hG3 hG4
     go_wp2
     go_region
     go_wp2
     go_roundw
     case rel=>
      have:=HLT.out
      exact ⟨i+1,_,by omega,by go_num,HST.out,HREP.out,HCH.out⟩
     case measure=>have:=HLT.out;simp[intOf];omega
    ·rw[ho] at hW2
     rw[he]
     have HO:=hide ho
     have HW2:=hide hW2
     clear he ho hW2
     go_wp2
     refine bodyPost_ret (results_tmp2 rfl _ _ _) rfl ?_
     exact .inr ⟨i,r,HLT.out,HAT.out,H16.out,HO.out,rfl,HW2.out,HK2.out,HC2.out⟩
   ·have hst:r.step key.data.toList (p[i]'hlt)=some ⟨r.n,r.t++[p[i]'hlt],r.k⟩:=by unfold Ref.Wr.step;rw[if_neg h16]
    have HST:=hide (HNX.out.trans hst)
    have j16:¬ (16:Int)≤(r.t.length:Int):=by omega
    have hclt:r.t.length<ch.length:=by rw[hcl];omega
    have d3:=hB.cell (wr_byte _ _ _ _ _ _ r.t.length hclt)
    have df:=hB.frozen
    have hb3:=hB.setCell_same (3+r.t.length) (.int .u8 (((p[i]'hlt).toNat:Nat):Int))
    rw[wr_set_byte _ _ _ _ _ _ r.t.length _ hclt] at hb3
    have e19:=hb3.cell (wr_count _ _ _ _ _ _ (by rw[List.length_set];exact hcl))
    have hb4:=hb3.setCell_same 19 (.int .i64 ((r.t.length+1:Nat):Int))
    rw[wr_set_count _ _ _ _ _ _ _ (by rw[List.length_set];exact hcl)] at hb4
    have hG3:=(World.grownBy.refl wr (some wb)).setCell (3+r.t.length) (.int .u8 (((p[i]'hlt).toNat:Nat):Int))
    have hG4:wr.grownBy (((wr.setCell ⟨wb,3+r.t.length,none⟩ (.int .u8 (((p[i]'hlt).toNat:Nat):Int))).setCell ⟨wb,19,none⟩ (.int .i64 ((r.t.length+1:Nat):Int))).drew) (some wb):=(hG3.setCell 19 (.int .i64 ((r.t.length+1:Nat):Int))).drewN 1
    have hlen2:(r.t++[p[i]'hlt]).length=r.t.length+1:=by rw[List.length_append];rfl
    have HREP:=hide (show WRep wb sk g key ⟨r.n,r.t++[p[i]'hlt],r.k⟩ (((wr.setCell ⟨wb,3+r.t.length,none⟩ (.int .u8 (((p[i]'hlt).toNat:Nat):Int))).setCell ⟨wb,19,none⟩ (.int .i64 ((r.t.length+1:Nat):Int))).drew) from
     ⟨⟨ch.set r.t.length (p[i]'hlt),by rw[List.length_set];exact hcl,by show (ch.set _ _).take (r.t++[_]).length=_;rw[hlen2];exact chunk_put ch r.t (p[i]'hlt) htk hclt,by show Blk _ _ _ (wrCells _ _ _ _ (r.t++[_]).length _);rw[hlen2];exact hb4⟩,by show (r.t++[_]).length≤16;rw[hlen2];omega,hk.grown hG4 (fun e=>hwk (by injection e with e;exact e.symm)),hg.grown hG4 (fun e=>hwg (by injection e with e;exact e.symm))⟩)
    have HCH:=hide (HC.out.grew hG4 (.inl (.inl rfl)))
    have jc:(r.t.length:Int)<16:=by omega
    generalize ch[r.t.length]=y at *
    obtain ⟨c,hc⟩:∃ c,r.t.length=c:=⟨_,rfl⟩
    rw[hc] at c19 d3 e19 HREP HCH jc j16
    clear hst hb3 hb4 hG3 hG4 hB hk hg htk hcl hclt h16 hlen2 hc hpx hnx hil
    go_wp2
    go_region
    go_wp2
    go_roundw
    case rel=>
     have:=HLT.out
     exact ⟨i+1,_,by omega,by go_num,HST.out,HREP.out,HCH.out⟩
    case measure=>have:=HLT.out;simp[intOf];omega
  ·obtain rfl:i=p.size:=by omega
   have ji:¬ (p.size:Int)<(p.size:Int):=by omega
   clear hB hk hg htk hcl
   go_wp2
   refine bodyPost_ret (results_tmp2 rfl _ _ _) rfl ?_
   exact .inl ⟨r,HAT.out,rfl,HR.out,HC.out⟩
set_option maxHeartbeats 800000 in
theorem write_end (wb:Nat) (fin:Int) (p:ByteArray) (w:World) (h:WEnd wb fin w) (hf:fin≠0):
  Calls Tryz.prog 50 #[.pointer (some ⟨wb,0,none⟩),.string p] w fun e w'=>e = .returned (.tuple #[.int .i64 0,.int .i64 fin])∧∃ m,w'=w.drewN m:=by
 have c20:=Blk.cell h (wr_fin _ _ _ _ _ _ rfl)
 have zf:(fin != 0)=true:=by rw[bne_iff_ne];exact hf
 clear h hf
 go_enter Tryz.func50,Tryz.ntmps50
 go_wp2
 go_region
 go_wp2
 refine bodyPost_ret (results_tmp2 rfl _ _ _) rfl ?_
 exact ⟨rfl,1,rfl⟩
set_option maxHeartbeats 800000 in
theorem close_end (wb:Nat) (fin:Int) (w:World) (h:WEnd wb fin w) (hf:fin≠0):
  Calls Tryz.prog 51 #[.pointer (some ⟨wb,0,none⟩)] w fun e w'=>e = .returned (.int .i64 fin)∧∃ m,w'=w.drewN m:=by
 have c20:=Blk.cell h (wr_fin _ _ _ _ _ _ rfl)
 have zf:(fin != 0)=true:=by rw[bne_iff_ne];exact hf
 clear h hf
 go_enter Tryz.func51,Tryz.ntmps51
 go_wp2
 go_ret
 exact ⟨rfl,0,rfl⟩
def ClosedP (wb sk g:Nat) (key:ByteArray) (s:Ref.Wr) (w:World) (e:Ending) (w':World):Prop:=
 e = .returned (.int .i64 (s.k.err (s.box key.data.toList true)))∧WEnd wb (if s.k.ok (s.box key.data.toList true) then 14 else 16) w'∧Blk w' sk 96 ((s.k.put (s.box key.data.toList true)).cells g)∧Chg (fun x=>x=wb∨x=sk) w w'
set_option maxRecDepth 100000 in
set_option maxHeartbeats 1600000 in
theorem close_any (wb sk g:Nat) (key:ByteArray) (s:Ref.Wr) (w:World) (hR:WRep wb sk g key s w) (hkey:key.size=32) (hwk:wb≠sk)
  (hn:s.n+10≤1125899906842624) (hgot:s.k.got.size+4000<1125899906842624) (hpos:s.k.pos+20<1125899906842624):
  Calls Tryz.prog 51 #[.pointer (some ⟨wb,0,none⟩)] w (ClosedP wb sk g key s w):=by
 obtain ⟨ch,hcl,htk,hB⟩:=hR.wr
 have c20:=hB.cell (wr_fin _ _ _ _ _ _ hcl)
 have HSD:=hide (send_any wb sk g key s.n ch s.t.length true s.k w hB hkey (by omega) hcl hR.t16 hR.sn hR.pl hwk (by omega) (by omega))
 rw[htk] at HSD
 have hbx:(⟨(Ref.box key.data.toList s.n true s.t).toArray⟩:ByteArray)=s.box key.data.toList true:=rfl
 rw[hbx] at HSD
 have HCL:=hide hcl
 clear hR hB hcl htk hbx
 go_enter Tryz.func51,Tryz.ntmps51
 go_wp2_with fail
 refine HSD.out.mono ?_
 rintro e w2 ⟨rfl,hK2,hW2,hC2⟩
 have HK2:=hide hK2
 have HC2:=hide hC2
 clear HSD hK2 hC2 c20
 rcases s.k.err_cases (s.box key.data.toList true) with ⟨he,ho⟩ | ⟨he,ho⟩
 ·rw[ho,if_pos rfl] at hW2
  rw[he]
  have HE:=hide he
  have HO:=hide ho
  have HF:=hide (finish_any wb _ 14 w2 hW2 (wr_len _ _ _ _ _ _ HCL.out))
  clear he ho hW2
  go_wp2_with fail
  refine HF.out.mono ?_
  rintro e w3 ⟨⟨v3,rfl⟩,hB3,hG3⟩
  have HB3:=hide hB3
  have HK3:=hide (HK2.out.grown hG3 (fun e=>hwk (by injection e with e;exact e.symm)))
  have HC3:=hide (HC2.out.grew hG3 (.inl (.inl rfl)))
  clear HF hB3 hG3 HK2 HC2
  go_wp2
  go_ret
  exact ⟨by rw[HE.out];rfl,by rw[HO.out,if_pos rfl];exact HB3.out,HK3.out,HC3.out⟩
 ·rw[ho] at hW2
  rw[he]
  have HE:=hide he
  have HO:=hide ho
  have HW2:=hide hW2
  clear he ho hW2
  go_wp2
  go_ret
  exact ⟨by rw[HE.out];rfl,by rw[HO.out];exact HW2.out,HK2.out,HC2.out⟩
theorem strCells_eq (s:ByteArray):Lib.strCells s=u8L s.data.toList:=rfl
theorem run_append_rowS {w:World} {base:Nat} {n:Nat} {xs:List Value} (ty:TypeId) (g cap:Nat) (hown:Row w base 5 1 (.slice (some ⟨g,0,none⟩) n cap) n xs) (s:ByteArray) (h63:n+s.size≤140737488355328) (hbase:base≤w.heap.size):
  ∃ g' cap' w',(Builtin.append_ #[67,9] ty #[.slice (some ⟨g,0,none⟩) n cap,.string s]).run Tryz.prog w = .ok (.slice (some ⟨g',0,none⟩) (n+s.size) cap') w'∧Row w' base 5 1 (.slice (some ⟨g',0,none⟩) (n+s.size) cap') (n+s.size) (xs++u8L s.data.toList)∧w.grownBy w' (some g):=by
 obtain ⟨i0,hi,hz0,hz1,hz2⟩:=info_parts infoU8
 have hxl:xs.length=n:=by simpa using hown.1
 have hsl:(u8L s.data.toList).length=s.size:=by rw[←strCells_eq];exact Lib.strCells_length s
 have hlen:(xs++u8L s.data.toList).length=(n+s.size)*1:=by rw[List.length_append,hxl,hsl,Nat.mul_one]
 rcases hown.2 with ⟨h0,_⟩ | ⟨g2,cap2,cur,hv,hb,hg,hc,hm,hcl,htk⟩
 ·cases h0
 ·cases hv
  rw[Nat.mul_one] at hcl htk
  by_cases hroom:n+s.size≤cap
  ·have hf:=Lib.run_firstCells_string (P:=Tryz.prog) w 1 s
   have hst:=run_storeCells_cells (P:=Tryz.prog) g n (u8L s.data.toList) 0 w
    (fun j hj=>by rw[hg.cell (i:=n+0+j) (List.getElem?_eq_getElem (by omega))];rfl)
    (fun j hj=>hg.frozen (by omega)) (u8L_one _)
   simp only[Nat.add_zero] at hst
   have hr:(Builtin.append_ #[67,9] ty #[.slice (some ⟨g,0,none⟩) n cap,.string s]).run Tryz.prog w = .ok (.slice (some ⟨g,0,none⟩) (n+s.size) cap) (w.setCells g n (u8L s.data.toList)):=by
    rw[strCells_eq] at hf
    simp[Builtin.append_,run_underlying Tryz.underlying67,run_underlying Tryz.underlying9,sizeOf,typeInfo,hi,hz1,Builtin.lenOf,hroom,hf,Addr.add_lit,hst]
   refine ⟨g,cap,_,hr,⟨hlen,.inr ⟨g,cap,_,rfl,hb,BlkM.setCells_same (u8L s.data.toList) cur n w hg (by omega),hroom,hm,?_,?_⟩⟩,World.grownBy.setCells _ _ _ (World.grownBy.refl w _)⟩
   ·unfold laidOver;simp only[List.length_append,List.length_take,List.length_drop];omega
   ·unfold laidOver
    rw[htk,Nat.mul_one,List.take_append_of_le_length (by rw[hlen];omega),List.take_of_length_le (by rw[hlen];omega)]
  ·have hge:=grownCap_ge w (n+s.size) cap 5
   have hcm:grownCap w (n+s.size) cap 5≤maxLen:=grownCap_le_maxLen w (n+s.size) cap 5 (by unfold maxLen;omega)
   have hr:=Lib.run_append_grow_string (P:=Tryz.prog) w 67 9 ty 5 i0 (.int .u8 0) Tryz.underlying67 Tryz.underlying9 hi hz0 ⟨g,0,none⟩ n cap xs (by rw[hz1];omega) (fun j u hu=>by
     rw[Addr.add_mid,Nat.zero_add]
     refine hg.cell ?_
     rw[←htk,List.getElem?_take] at hu
     split at hu
     ·exact hu
     ·cases hu) s (by omega) (by omega) (growslice_fits (by omega) (by rw[hz2];omega))
   rw[strCells_eq] at hr
   refine ⟨w.heap.size,_,_,hr,⟨hlen,.inr ⟨w.heap.size,_,(xs++u8L s.data.toList++(Builtin.zeroCells (Value.int .u8 0).cells (grownCap w (n+s.size) cap 5-(n+s.size))).toList),rfl,hbase,?_,hge,hcm,?_,?_⟩⟩,⟨rfl,rfl,rfl,by simp,fun k hk _=>heap_alloc_old w.drew _ hk⟩⟩
   ·refine Blk.marked ?_
    have h1:=heap_alloc_new w.drew (.cells (xs.toArray++(u8L s.data.toList).toArray++Builtin.zeroCells (Value.int .u8 0).cells (grownCap w (n+s.size) cap 5-(n+s.size))) 5)
    have hA:xs.toArray++(u8L s.data.toList).toArray++Builtin.zeroCells (Value.int .u8 0).cells (grownCap w (n+s.size) cap 5-(n+s.size))=(xs++u8L s.data.toList++(Builtin.zeroCells (Value.int .u8 0).cells (grownCap w (n+s.size) cap 5-(n+s.size))).toList).toArray:=by
     apply Array.ext'
     simp only[Array.toList_append,List.append_assoc]
    rw[hA] at h1
    generalize (xs++u8L s.data.toList++(Builtin.zeroCells (Value.int .u8 0).cells (grownCap w (n+s.size) cap 5-(n+s.size))).toList)=LL at *
    rw[hA]
    exact h1
   ·have hz3:(Value.int IntKind.u8 0).cells.size=1:=rfl
    simp only[List.length_append,Array.length_toList,size_zeroCells,hz3,hxl,hsl]
    omega
   ·rw[Nat.mul_one,List.take_append_of_le_length (by rw[hlen];omega),List.take_of_length_le (by rw[hlen];omega)]
theorem wpList_append_text {ops:Array Oper} {rest:List Oper} {o:Oper} {a:Act} {w:World} {Q:Exit→Act→World→Prop} (hgd:o.guard=none) (x y:Operand)
  (ho:o.op = .call { callee:=.builtin .append,args:=#[x,y],argTypes:=#[67,9] })
  (base g cap n:Nat) (xs:List UInt8) (hx:a.eval x = .slice (some ⟨g,0,none⟩) n cap) (hown:Row w base 5 1 (.slice (some ⟨g,0,none⟩) n cap) n (u8L xs)) (s:ByteArray) (hy:a.eval y = .string s) (hn:n+s.size≤140737488355328) (hbase:base≤w.heap.size)
  (h:∀ g' cap' w',Row w' base 5 1 (.slice (some ⟨g',0,none⟩) (n+s.size) cap') (n+s.size) (u8L (xs++s.data.toList))→w.grownBy w' (some g)→wpList Tryz.prog ops Q rest (a.put o.dst (.slice (some ⟨g',0,none⟩) (n+s.size) cap')) w'):wpList Tryz.prog ops Q (o::rest) a w:=by
 refine wpList_plain hgd fun K hK=>?_
 obtain ⟨g',cap',w',hr,h2,h3⟩:=run_append_rowS o.type g cap hown s hn hbase
 unfold Oper.wp execOp
 simp only[ho,resolve,invoke,builtin,Sem.run_bind,Sem.run_pure,Result.andThen_ok,List.map_toArray,List.map_cons,List.map_nil,hx,hy,hr]
 exact hK _ _ (h g' cap' w' (by rw[u8L_append];exact h2) h3)
namespace Ref
def encB (key:List UInt8) (text:List UInt8):Nat→List UInt8
 | 0=>[]
 | k+1=>encB key text k++box key k false ((text.drop (16*k)).take 16)
def full (n:Nat):Nat:=(n-1)/16
def encF (key:List UInt8) (text:List UInt8):List UInt8:=encB key text (full text.length)++box key (full text.length) true (text.drop (16*full text.length))
def file (l:List ByteArray) (s:ByteArray) (p:Nat) (text:List UInt8):List UInt8:=(head l s p).data.toList++(pdraw l s p).data.toList++encF (pkey l s p).data.toList text
end Ref
def EncP (l:List ByteArray) (b:Nat) (s:ByteArray) (p:Nat) (text:ByteArray) (w:World) (e:Ending) (w':World):Prop:=
 e = .returned (.tuple #[.string (if Ref.beginE l s p=0 then ⟨(Ref.file l s p text.data.toList).toArray⟩ else ⟨#[]⟩),.int .i64 (Ref.beginE l s p)])∧Blk w' b 94 (springCells s (Ref.beginP l s p))∧w.grownBy w' (some b)
theorem Ref.pkey_size (l:List ByteArray) (s:ByteArray) (p:Nat):(Ref.pkey l s p).size=32:=by unfold Ref.pkey;rw[ba_size,Ref.keyL_len]
theorem enc_nums (text:ByteArray) (k:Nat) (h:16*(k+1)<text.size):
  ((text.extract (16*k) text.size).extract 0 16).data.toList=(text.data.toList.drop (16*k)).take 16∧(text.extract (16*k) text.size).extract 16 (text.extract (16*k) text.size).size=text.extract (16*(k+1)) text.size:=by
 have hxs:(text.extract (16*k) text.size).size=text.size-16*k:=by rw[ByteArray.size_extract];omega
 refine ⟨?_,?_⟩
 ·rw[ext_take,sub_list,List.take_take,Nat.min_eq_left (by omega)]
 ·apply ba_ext
  rw[sub_list,hxs,sub_list,sub_list,List.drop_take,List.take_take,List.drop_drop,show 16*k+16=16*(k+1) by omega]
  congr 1
  omega
theorem wpList_bytes {ops:Array Oper} {rest:List Oper} {o:Oper} {a:Act} {w:World} {Q:Exit→Act→World→Prop} (hgd:o.guard=none) (x:Operand) (ho:o.op = .convert 9 67 x) (s:ByteArray) (hx:a.eval x = .string s) (hs:s.size≤1099511627776)
  (h:∀ cap w',cap≤9223372036854775807→s.size≤cap→Row w' w.heap.size 5 1 (.slice (some ⟨w.heap.size,0,none⟩) s.size cap) s.size (u8L s.data.toList)→Below w.heap.size w w'→wpList Tryz.prog ops Q rest (a.put o.dst (.slice (some ⟨w.heap.size,0,none⟩) s.size cap)) w'):wpList Tryz.prog ops Q (o::rest) a w:=by
 have hge:=grownCap_ge w s.size 0 5
 have hle:=grownCap_le_maxLen w s.size 0 5 (by unfold maxLen;omega)
 have hrow:=row_bytes s w _ hge hle
 have hcv:=run_bytes_of_string (P:=Tryz.prog) w 9 67 5 s Tryz.underlying9 Tryz.underlying67 Tryz.underlying5
 refine wpList_plain hgd fun K hK=>?_
 unfold Oper.wp execOp
 simp only[ho,Sem.run_bind,Sem.run_pure,Result.andThen_ok,hx,hcv]
 exact hK _ _ (h _ _ (by unfold maxLen at hle;exact hle) hge hrow ((Below.refl _ _).drew.alloc (Nat.le_refl _) _))
structure ENC (b:Nat) (s:ByteArray) (q:Nat) (w w1:World) (x y z:ByteArray) (wi:World):Prop where
 st:Blk wi w1.heap.size 98 [.string x,.string y,.string z]
 sp:Blk wi b 94 (springCells s q)
 gr:w.grownBy wi (some b)
theorem ENC.after {b:Nat} {s:ByteArray} {q:Nat} {w w1 wi wj:World} {x y z:ByteArray} (h:ENC b s q w w1 x y z wi) (hb:Below wi.heap.size wi wj):ENC b s q w w1 x y z wj:=⟨h.st.below hb h.st.lt,h.sp.below hb h.sp.lt,grown_below h.gr hb⟩
theorem ENC.grew {b:Nat} {s:ByteArray} {q:Nat} {w w1 wi wj:World} {x y z:ByteArray} {g:Nat} (h:ENC b s q w w1 x y z wi) (hg:wi.grownBy wj (some g)) (h1:w1.heap.size<g) (h2:b<g) (h3:w.heap.size≤g):ENC b s q w w1 x y z wj:=
 ⟨h.st.grown hg (fun e=>by injection e with e;omega),h.sp.grown hg (fun e=>by injection e with e;omega),grown_trans h.gr hg (fun k hk=>.inl (by injection hk with hk;omega))⟩
def strLen:Value→Nat
 | .string s=>s.size
 | _=>0
set_option maxRecDepth 100000 in
set_option maxHeartbeats 3200000 in
theorem encrypt_any (v:Value) (l:List ByteArray) (b:Nat) (s:ByteArray) (p:Nat) (text:ByteArray) (w:World) (ht:Tabs w) (hv:Strs w v l) (hvb:∀ g o n c,v = .slice (some ⟨g,o,none⟩) n c→0<l.length→g≠b) (hl:l.length≤1099511627776)
  (hb:Blk w b 94 (springCells s p)) (h2b:2≤b) (hp:p≤s.size) (hs:s.size<1125899906842624) (hx:text.size≤1099511627):
  Calls Tryz.prog 27 #[v,.pointer (some ⟨b,0,none⟩),.string text] w (EncP l b s p text w):=by
 have HBG:=hide (vbegin_any v l b s p w ht hv hvb hl hb h2b hp hs)
 have hbl:=hb.lt
 obtain ⟨ao,cp,rfl⟩:=hv.len
 clear ht hv hvb hb
 go_enter Tryz.func27,Tryz.ntmps27
 go_wp2_with fail
 refine HBG.out.mono ?_
 rintro e w1 ⟨hd,dr,ky,rfl,hval,hB1,hG1⟩
 have HB1:=hide hB1
 have HG1:=hide hG1
 have hsz1:=hG1.size
 clear HBG hB1 hG1
 by_cases hE:Ref.beginE l s p=0
 ·obtain ⟨rfl,rfl,rfl⟩:=hval hE
  obtain ⟨hz1,hz2⟩:=Ref.head_size hE
  have hz3:=Ref.pkey_size l s p
  have HIF:=hide (show (if Ref.beginE l s p=0 then (⟨(Ref.file l s p text.data.toList).toArray⟩:ByteArray) else ⟨#[]⟩)=⟨(Ref.file l s p text.data.toList).toArray⟩ from if_pos hE)
  have HE0:=hide hE
  have HFI:=hide (show Ref.file l s p text.data.toList=(Ref.head l s p).data.toList++(Ref.pdraw l s p).data.toList++Ref.encF (Ref.pkey l s p).data.toList text.data.toList from rfl)
  rw[hE]
  generalize Ref.head l s p=HDR at *
  generalize Ref.pdraw l s p=PDR at *
  generalize Ref.pkey l s p=PKY at *
  clear hval hE
  have hb12:Below w1.heap.size w1 (w1.alloc (.cells #[.string HDR,.string PDR,.string PKY] 98)):=(Below.refl _ _).alloc (Nat.le_refl _) _
  have hB2:Blk (w1.alloc (.cells #[.string HDR,.string PDR,.string PKY] 98)) w1.heap.size 98 [.string HDR,.string PDR,.string PKY]:=Blk.new rfl rfl
  have c0:=hB2.cell (i:=0) rfl
  have c1:=hB2.cell (i:=1) rfl
  have HB2:=hide hB2
  have HS2:=hide (HB1.out.below hb12 HB1.out.lt)
  have HG2:=hide (grown_below HG1.out hb12)
  have u1:¬ (9223372036854775807<HDR.size+PDR.size):=by omega
  have hhs:(HDR++PDR).size=HDR.size+PDR.size:=ba_sz _ _
  have hhl:(HDR++PDR).data.toList=HDR.data.toList++PDR.data.toList:=ba_list _ _
  have HHL:=hide hhl
  have hHPz:(HDR++PDR).size≤2000:=by omega
  clear hhs
  generalize hHP:HDR++PDR=HP at *
  obtain ⟨w2,hw2⟩:∃ x,w1.alloc (.cells #[.string HDR,.string PDR,.string PKY] 98)=x:=⟨_,rfl⟩
  rw[hw2] at HB2 HS2 HG2 c0 c1
  have hsz2:w1.heap.size<w2.heap.size:=HB2.out.lt
  have hlen:text.data.toList.length=text.size:=ba_len text
  have HLEN:=hide hlen
  obtain ⟨M,hM⟩:∃ M,Ref.full text.size=M:=⟨_,rfl⟩
  have hMd:M=(text.size-1)/16:=by rw[←hM];rfl
  have HMD:=hide hMd
  clear hMd
  have HENC:=hide (show Ref.encF PKY.data.toList text.data.toList=Ref.encB PKY.data.toList text.data.toList M++Ref.box PKY.data.toList M true (text.data.toList.drop (16*M)) by unfold Ref.encF;rw[hlen,hM])
  have hx0:text.extract 0 text.size=text:=ba_ext (by rw[ext_take,List.take_of_length_le (by rw[ba_len];exact Nat.le_refl _)])
  have HX0:=hide hx0
  clear hb12 hB2 HB1 HG1 hlen hM hx0 hhl
  go_wp2_with (refine wpList_bytes rfl (.tmp 28) rfl HP rfl (by omega) ?_;intro cap0 w3 hcap0 hcap1 hrow0 hbe0)
  have HE3:=hide (show ENC b s (Ref.beginP l s p) w w1 HDR PDR PKY w3 from ⟨HB2.out.below hbe0 HB2.out.lt,HS2.out.below hbe0 HS2.out.lt,grown_below HG2.out hbe0⟩)
  have HROW:=hide hrow0
  have HSZ3:=hide hbe0.size
  clear c0 c1 hHP hw2 u1 hrow0 hbe0 HB2 HS2 HG2
  go_loopw [2,10,11] (fun vt v vn wr=>∃ (k N g cap:Nat),k≤M∧vt = .string (text.extract (16*k) text.size)∧vn = .int .u64 (k:Nat)∧v = .slice (some ⟨g,0,none⟩) N cap∧N≤HP.size+32*k∧Row wr w2.heap.size 5 1 (.slice (some ⟨g,0,none⟩) N cap) N (u8L (HP.data.toList++Ref.encB PKY.data.toList text.data.toList k))∧ENC b s (Ref.beginP l s p) w w1 HDR PDR PKY wr∧w2.heap.size≤wr.heap.size) (fun vt _ _ _=>strLen vt)
  case atStart=>exact ⟨0,HP.size,_,_,Nat.zero_le _,by rw[HX0.out],rfl,rfl,by omega,by rw[show HP.data.toList++Ref.encB PKY.data.toList text.data.toList 0=HP.data.toList from List.append_nil _];exact HROW.out,HE3.out,HSZ3.out⟩
  case round=>
   clear HROW HE3 HX0 HSZ3 hcap0 hcap1
   obtain ⟨k,N,g,cap,hk,rfl,rfl,rfl,hN,hr,hEN,hsz⟩:=hrel
   have hxs:(text.extract (16*k) text.size).size=text.size-16*k:=by rw[ByteArray.size_extract];omega
   have HEN:=hide hEN
   have HR:=hide hr
   obtain ⟨ao9,cap9,e9,hd1,hd2⟩:=Row.anyN hr
   injection e9 with e9a e9b e9c
   subst e9c
   clear e9a e9b ao9
   unfold maxLen at hd2
   have c2:=hEN.st.cell (i:=2) rfl
   have hstl:=hEN.st.lt
   clear hr hEN
   by_cases hlt:k<M
   ·have hbig:16*(k+1)<text.size:=by have:=HMD.out;omega
    have j1:(16:Int)<((text.extract (16*k) text.size).size:Int):=by omega
    have j2:(16:Int)≤((text.extract (16*k) text.size).size:Int):=by omega
    have j3:16≤(text.extract (16*k) text.size).size:=by omega
    obtain ⟨hch,hnxt⟩:=enc_nums text k hbig
    have HSC:=hide (fun w'=>sealChunk_any PKY k false ((text.extract (16*k) text.size).extract 0 16) w' hz3 (by omega) (by rw[ByteArray.size_extract];omega))
    rw[hch] at HSC
    have hbs:=Ref.box_size PKY.data.toList k false ((text.data.toList.drop (16*k)).take 16)
    have hbt:((text.data.toList.drop (16*k)).take 16).length≤16:=by rw[List.length_take];omega
    have HEB:=hide (show Ref.encB PKY.data.toList text.data.toList (k+1)=Ref.encB PKY.data.toList text.data.toList k++Ref.box PKY.data.toList k false ((text.data.toList.drop (16*k)).take 16) from rfl)
    generalize hBX:Ref.box PKY.data.toList k false ((text.data.toList.drop (16*k)).take 16)=BX at *
    have hbz:(⟨BX.toArray⟩:ByteArray).size=BX.length:=ba_size BX
    have HBZ:=hide hbz
    have hbx2:(⟨BX.toArray⟩:ByteArray).size≤32:=by omega
    have hbl2:(⟨BX.toArray⟩:ByteArray).data.toList=BX:=rfl
    have HBL:=hide hbl2
    generalize (⟨BX.toArray⟩:ByteArray)=BB at *
    have HNXT:=hide hnxt
    have HXS:=hide hxs
    generalize hTX:text.extract (16*k) text.size=TX at *
    have hb0:Below wr.heap.size wr wr.drew:=⟨rfl,rfl,rfl,Nat.le_refl _,fun _ _=>rfl⟩
    have HB0:=hide hb0
    have t1:((k:Int)+1)%18446744073709551616=(k:Int)+1:=by omega
    have t1':(k:Int)+1=((k+1:Nat):Int):=by omega
    have T1:=hide t1'
    clear t1'
    have hN2:N+BB.size≤140737488355328:=by omega
    have HN2:=hide (show N+BB.size≤HP.size+32*(k+1) by omega)
    have HLT:=hide hlt
    clear hch hnxt hbs hbt hbz hbl2 hBX hb0 hxs hlt hbig
    go_wp2
    go_region_held3 (fun w'=>w'.cell? ⟨w1.heap.size,2,none⟩=some (.string PKY)) (first | assumption | (exact (hb2.cell hstl).trans (by assumption))) ((go_at_call 57;refine (HSC.out _).mono ?_;rintro e w4 ⟨rfl,hb2⟩))
    rename_i hH
    clear hH
    have hbd:Below wr.heap.size wr w4:=HB0.out.trans hb2
    have HEN4:=hide (HEN.out.after hbd)
    have HR4:=hide (Row.after HR.out hbd)
    have hsz4:w2.heap.size≤w4.heap.size:=Nat.le_trans hsz hbd.size
    clear hb2 hbd HEN HR HSC HB0 c2
    go_wp2_with (at_builtin;refine wpList_append_text rfl (.tmp 45) (.tmp 46) rfl w2.heap.size g cap N _ rfl HR4.out BB rfl hN2 hsz4 ?_;intro g5 cap5 w5 hr5 hg5)
    have hgg:w2.heap.size≤g:=(HR4.out.lt g rfl).1
    go_roundw
    case rel=>
     have h1:=HLT.out
     refine ⟨k+1,N+BB.size,g5,cap5,by omega,by rw[HNXT.out],by rw[T1.out],rfl,HN2.out,?_,HEN4.out.grew hg5 (by omega) (by omega) (by omega),Nat.le_trans hsz4 hg5.size⟩
     rw[HEB.out,←List.append_assoc,←HBL.out]
     exact hr5
    case measure=>
     have h1:=HXS.out
     have h2:=HLT.out
     have h3:=HMD.out
     simp only[strLen,HNXT.out,ByteArray.size_extract]
     omega
   ·obtain rfl:k=M:=by omega
    have HSC:=hide (fun w'=>sealChunk_any PKY k true (text.extract (16*k) text.size) w' hz3 (by have:=HMD.out;omega) (by rw[ByteArray.size_extract];omega))
    have hch:(text.extract (16*k) text.size).data.toList=text.data.toList.drop (16*k):=by rw[sub_list,List.take_of_length_le (by rw[List.length_drop,HLEN.out];exact Nat.le_refl _)]
    rw[hch] at HSC
    have hbs:=Ref.box_size PKY.data.toList k true (text.data.toList.drop (16*k))
    have hbt:(text.data.toList.drop (16*k)).length≤16:=by rw[List.length_drop,HLEN.out];have:=HMD.out;omega
    have j1:¬ (16:Int)<((text.extract (16*k) text.size).size:Int):=by have:=HMD.out;omega
    generalize hBX:Ref.box PKY.data.toList k true (text.data.toList.drop (16*k))=BX at *
    have hbz:(⟨BX.toArray⟩:ByteArray).size=BX.length:=ba_size BX
    have hbl2:(⟨BX.toArray⟩:ByteArray).data.toList=BX:=rfl
    have HBL:=hide hbl2
    have hN2:N+(⟨BX.toArray⟩:ByteArray).size≤140737488355328:=by have:=HMD.out;omega
    generalize (⟨BX.toArray⟩:ByteArray)=BB at *
    generalize text.extract (16*k) text.size=TX at *
    have HSA:=hide (fun (w':World) (v':Value) (n':Nat) (l':List UInt8) (h:Row w' w2.heap.size 5 1 v' n' (u8L l'))=>Row.strAny h)
    have HFIN:=hide (show Ref.file l s p text.data.toList=HP.data.toList++Ref.encB PKY.data.toList text.data.toList k++BX by rw[HFI.out,HENC.out,HHL.out];simp only[List.append_assoc])
    clear hch hbs hbt hbz hbl2 hBX hxs hlt hk HFI HENC HHL
    go_wp2_with fail
    refine (HSC.out _).mono ?_
    rintro e w4 ⟨rfl,hb2⟩
    have HEN4:=hide (HEN.out.after hb2)
    have HR4:=hide (Row.after HR.out hb2)
    have hsz4:w2.heap.size≤w4.heap.size:=Nat.le_trans hsz hb2.size
    clear hb2 HEN HR HSC c2
    go_wp2_with (at_builtin;refine wpList_append_text rfl (.tmp 63) (.tmp 64) rfl w2.heap.size g cap N _ rfl HR4.out BB rfl hN2 hsz4 ?_;intro g5 cap5 w5 hr5 hg5;rw[HBL.out,←HFIN.out] at hr5;obtain ⟨ao2,cap2,e2,hd3,hd4,hcv⟩:=HSA.out _ _ _ _ hr5;clear e2)
    have hgg:w2.heap.size≤g:=(HR4.out.lt g rfl).1
    refine bodyPost_ret (results_tmp2 rfl _ _ _) rfl ?_
    have HEN5:=HEN4.out.grew hg5 (by omega) (by omega) (by omega)
    exact ⟨by rw[HIF.out,HE0.out];rfl,HEN5.sp,HEN5.gr⟩
 ·have HE:=hide hE
  have zE:(Ref.beginE l s p != 0)=true:=by rw[bne_iff_ne];exact hE
  have hb12:Below w1.heap.size w1 (w1.alloc (.cells #[.string hd,.string dr,.string ky] 98)):=(Below.refl _ _).alloc (Nat.le_refl _) _
  have HS2:=hide (HB1.out.below hb12 HB1.out.lt)
  have HG2:=hide (grown_below HG1.out hb12)
  have HIF:=hide (show (if Ref.beginE l s p=0 then (⟨(Ref.file l s p text.data.toList).toArray⟩:ByteArray) else ⟨#[]⟩)=⟨#[]⟩ from if_neg hE)
  clear hval hE hb12 HB1 HG1
  go_wp2
  refine bodyPost_ret (results_tmp2 rfl _ _ _) rfl ?_
  exact ⟨by rw[HIF.out];rfl,HS2.out,HG2.out⟩
namespace Ref
theorem full_step (j:Nat):(j-16*full j=16→full (j+1)=full j+1∧j=16*full j+16)∧(j-16*full j<16→full (j+1)=full j)∧16*full j≤j∧j≤16*full j+16:=by
 unfold full
 omega
structure Good (key X hd:List UInt8) (j:Nat) (s:Wr):Prop where
 n:s.n=full j
 t:s.t=(X.take j).drop (16*full j)
 got:s.k.got.data.toList=hd++encB key X (full j)
theorem Good.tlen {key X hd:List UInt8} {j:Nat} {s:Wr} (h:Good key X hd j s) (hj:j≤X.length):s.t.length=j-16*full j:=by
 rw[h.t,List.length_drop,List.length_take]
 omega
theorem put_got {k:Snk} {t:ByteArray} (h:k.ok t=true):(k.put t).got.data.toList=k.got.data.toList++t.data.toList:=by
 rw[Snk.put_ok h,ba_list]
theorem Good.step {key X hd:List UInt8} {j:Nat} {s r:Wr} (h:Good key X hd j s) (hj:j<X.length) (hr:s.step key (X.getD j 0)=some r):Good key X hd (j+1) r:=by
 have hx:X.getD j 0=X[j]:=by rw[List.getD_eq_getElem?_getD,List.getElem?_eq_getElem hj];rfl
 have htl:=h.tlen (Nat.le_of_lt hj)
 obtain ⟨f1,f2,f3,f4⟩:=full_step j
 have htk:X.take (j+1)=X.take j++[X[j]]:=List.take_succ_eq_append_getElem hj
 unfold Wr.step at hr
 rw[htl] at hr
 split at hr
 ·rename_i h16
  obtain ⟨g1,g2⟩:=f1 h16
  split at hr
  ·rename_i hok
   have e:=Option.some.inj hr
   subst e
   refine ⟨by show s.n+1=_;rw[h.n,g1],?_,?_⟩
   ·show [X.getD j 0]=_
    rw[hx,g1,htk,List.drop_append_of_le_length (by rw[List.length_take];omega),List.drop_eq_nil_of_le (by rw[List.length_take];omega)]
    rfl
   ·show (s.k.put (s.box key false)).got.data.toList=_
    rw[put_got hok,h.got,g1,encB,List.append_assoc]
    congr 2
    show box key s.n false s.t=_
    rw[h.n,h.t]
    congr 1
    rw[List.drop_take,show j-16*full j=16 by omega]
  ·cases hr
 ·rename_i h16
  have g1:=f2 (by omega)
  have e:=Option.some.inj hr
  subst e
  refine ⟨by show s.n=_;rw[h.n,g1],?_,by show s.k.got.data.toList=_;rw[h.got,g1]⟩
  show s.t++[X.getD j 0]=_
  rw[hx,g1,htk,h.t,List.drop_append_of_le_length (by rw[List.length_take];omega)]
theorem Good.at {key X hd:List UInt8} {j:Nat} {s:Wr} (h:Good key X hd j s) (p:List UInt8) (hp:∀ i,i<p.length→p.getD i 0=X.getD (j+i) 0) (hj:j+p.length≤X.length):∀ (i:Nat) (r:Wr),i≤p.length→s.at key p i=some r→Good key X hd (j+i) r
 | 0,r,_,hr=>by
  have e:s=r:=Option.some.inj hr
  subst e
  exact h
 | i+1,r,hi,hr=>by
  rw[Wr.at] at hr
  cases hq:s.at key p i with
  | none=>rw[hq] at hr;cases hr
  | some q=>
   rw[hq] at hr
   have ih:=Good.at h p hp hj i q (by omega) hq
   have hr':q.step key (p.getD i 0)=some r:=hr
   rw[hp i (by omega)] at hr'
   exact ih.step (by omega) hr'
theorem Good.last {key X hd:List UInt8} {s:Wr} (h:Good key X hd X.length s):s.box key true=⟨(box key (full X.length) true (X.drop (16*full X.length))).toArray⟩:=by
 unfold Wr.box
 rw[h.n,h.t,List.take_of_length_le (Nat.le_refl _)]
theorem Good.closed {key X hd:List UInt8} {s:Wr} (h:Good key X hd X.length s) (hok:s.k.ok (s.box key true)=true):(s.k.put (s.box key true)).got.data.toList=hd++encF key X:=by
 rw[put_got hok,h.got,h.last,List.append_assoc]
 rfl
end Ref
end Go.Proofs.YtoifalcpfnacnaaGreatDoor
