import Derived.Test.YtngplkagmodgpaaDoorRows
import Derived.Test.YtngplkagmodgpaaDoorCards
import Derived.Test.YtngplkagmodgpaaDoorTie
import Derived.ProofKit
import Derived.OpenShut
import Derived.Deep.Slices
import Derived.Deep.DeepHandedRow
import Derived.Lib.LaidTab
import Derived.SizedLaws
import Derived.Stop.LaidErr
import Derived.Carry
import Derived.ChangeSame
import Derived.Test.YtngplkagmodgpaaDoorWn9
namespace Go.Proofs.YtngplkagmodgpaaDoor
open Go.RowKit
theorem Snk.ok_nil {k:Snk} (h:k.plan=[]) (t:ByteArray):k.ok t=true:=by
 unfold Snk.ok sinkN
 rw[h,if_neg (by simp)]
 simp
def OkN (wb sk g:Nat) (key X:ByteArray) (hd:List UInt8) (j:Nat) (w:World):Prop:=∃ s:Ref.Wr,WRep wb sk g key s w∧Ref.Good key.data.toList X.data.toList hd j s∧s.n≤j∧s.k.got.size≤2000+32*j∧s.k.pos≤2+j∧s.k.plan=[]
def WroteN (wb sk g:Nat) (key X:ByteArray) (hd:List UInt8) (j n:Nat) (w:World) (e:Ending) (w':World):Prop:=
 e = .returned (.tuple #[.int .i64 (n:Nat),.int .i64 0])∧OkN wb sk g key X hd (j+n) w'∧Chg (fun x=>x=wb∨x=sk) w w'
theorem write_okN {w1:World} {wb sk g:Nat} {key X:ByteArray} {hd:List UInt8} {j:Nat} (n:Nat) (h:OkN wb sk g key X hd j w1) (hkey:key.size=32) (hX:X.size≤268435456) (hj:j+n≤X.size) (hwk:wb≠sk) (hwg:wb≠g) (hgk:g≠sk):
  Calls Tryd.prog 20 #[.pointer (some ⟨wb,0,none⟩),.string ((X.extract j X.size).extract 0 n)] w1 (WroteN wb sk g key X hd j n w1):=by
 obtain ⟨s,hR,hG,b1,b2,b3,b4⟩:=h
 obtain ⟨p,hp⟩:∃ p,(X.extract j X.size).extract 0 n=p:=⟨_,rfl⟩
 have hpl:p.data.toList=(X.data.toList.drop j).take n:=by rw[←hp,ext_take,sub_list,List.take_take,Nat.min_eq_left (by omega)]
 have hpn:p.data.toList.length=n:=by rw[hpl,List.length_take,List.length_drop,ba_len];omega
 have hps:p.size=n:=by rw[←ba_len,hpn]
 have hget:∀ i,i<p.data.toList.length→p.data.toList.getD i 0=X.data.toList.getD (j+i) 0:=by
  intro i hi
  rw[hpn] at hi
  rw[hpl,List.getD_eq_getElem?_getD,List.getD_eq_getElem?_getD,List.getElem?_take,if_pos hi,List.getElem?_drop]
 have hat:=hG.at p.data.toList hget (by rw[hpn,ba_len];exact hj)
 have hft:=Ref.Wr.at_fits s hR.t16 key.data.toList p.data.toList
 rw[hp]
 refine (write_any wb sk g key s p w1 hR hkey hwk hwg hgk (by omega) (by omega) (by omega)).mono ?_
 rintro e w2 (⟨r,hr,rfl,hR2,hC⟩ | ⟨i,r,hi,hr,h16,hok,rfl,hW,hS,hC⟩)
 ·rw[hps] at hr ⊢
  have f:=hft n r hr
  have f1:=f.n
  have f2:=f.got
  have f3:=f.pos
  exact ⟨rfl,⟨r,hR2,hat n r (by omega) hr,by omega,by omega,by omega,f.plan.trans b4⟩,hC⟩
 ·rw[Snk.ok_nil ((hft i r hr).plan.trans b4)] at hok
  cases hok
def ClosedN (wb sk g:Nat) (F:List UInt8) (w:World) (e:Ending) (w':World):Prop:=e = .returned (.int .i64 0)∧WEnd wb 14 w'∧(∃ k:Snk,Blk w' sk 56 (k.cells g)∧k.got=⟨F.toArray⟩)∧Chg (fun x=>x=wb∨x=sk) w w'
theorem close_okN {w1:World} {wb sk g:Nat} {key X:ByteArray} {hd:List UInt8} (h:OkN wb sk g key X hd X.size w1) (hkey:key.size=32) (hX:X.size≤268435456) (hwk:wb≠sk):
  Calls Tryd.prog 21 #[.pointer (some ⟨wb,0,none⟩)] w1 (ClosedN wb sk g (hd++Ref.encF key.data.toList X.data.toList) w1):=by
 obtain ⟨s,hR,hG,b1,b2,b3,b4⟩:=h
 rw[←ba_len] at hG
 refine (close_any wb sk g key s w1 hR hkey hwk (by omega) (by omega) (by omega)).mono ?_
 rintro e w2 ⟨rfl,hW,hS,hC⟩
 have hok:=Snk.ok_nil b4 (s.box key.data.toList true)
 have he:s.k.err (s.box key.data.toList true)=0:=by unfold Snk.err;rw[hok];rfl
 rw[hok] at hW
 rw[he]
 exact ⟨rfl,hW,⟨_,hS,ba_ext (by rw[hG.closed hok])⟩,hC⟩
def LoopN (w:World) (wb sk g:Nat) (key X:ByteArray) (hd:List UInt8) (vt vk:Value) (wr:World):Prop:=∃ j k:Nat,j≤X.size∧k≤101+j∧vt = .string (X.extract j X.size)∧vk = .int .i64 k∧OkN wb sk g key X hd j wr∧Chg (fun x=>x=wb∨x=sk) w wr
set_option maxRecDepth 100000 in
set_option maxHeartbeats 3200000 in
theorem written_any (wb sk g:Nat) (key text:ByteArray) (hd:List UInt8) (turn:Int) (w:World) (h0:OkN wb sk g key text hd 0 w) (hkey:key.size=32) (hx:text.size≤268435456) (t1 : -9223372036854775808≤turn) (t2:turn≤9223372036854775807) (hwk:wb≠sk) (hwg:wb≠g) (hgk:g≠sk):
  Calls Tryd.prog 12 #[.pointer (some ⟨wb,0,none⟩),.string text,.int .i64 turn] w fun e w'=>e = .returned (.bool true)∧(∃ k:Snk,Blk w' sk 56 (k.cells g)∧k.got=⟨(hd++Ref.encF key.data.toList text.data.toList).toArray⟩)∧Chg (fun x=>x=wb∨x=sk) w w':=by
 have HPI:=hide (fun k w hk=>piece_any turn k w t1 t2 hk)
 have HX:=hide hx
 have HKY:=hide hkey
 have HNE:=hide (And.intro hwk (And.intro hwg hgk))
 have H0:=hide h0
 have HX0:=hide (show text.extract 0 text.size=text from tx_all text)
 clear h0 hx hkey t1 t2 hwk hwg hgk
 go_enter Tryd.func12,Tryd.ntmps12
 go_wp2
 go_loopw [1,7] (fun vt vk wr=>LoopN w wb sk g key text hd vt vk wr) (fun vt vk _=>2*strLen vt+(102+text.size-(intOf vk).toNat))
 case atStart=>exact ⟨0,0,Nat.zero_le _,Nat.zero_le _,by rw[HX0.out],rfl,H0.out,Chg.refl _ _⟩
 case round=>
  clear H0 HX0
  obtain ⟨j,k,hj,hk,rfl,rfl,hok,hch⟩:=hrel
  have hxb:=HX.out
  obtain ⟨tx,htx⟩:∃ x,text.extract j text.size=x:=⟨_,rfl⟩
  have hts:tx.size=text.size-j:=by rw[←htx,ByteArray.size_extract];omega
  rw[htx]
  have HTX:=hide htx
  have HTS:=hide hts
  have HJ:=hide hj
  have HKB:=hide (show k≤268435557∧tx.size≤268435456 by omega)
  have HKJ:=hide hk
  have kb:(k:Int)≤268435557:=by omega
  have tb:(tx.size:Int)≤268435456:=by omega
  have HOK:=hide hok
  have HCH:=hide hch
  clear htx hts hj hxb hk hok hch
  by_cases hgo:0<tx.size∨k<2
  ·have HPK:=hide (fun w=>HPI.out k w (by have:=HKB.out;omega))
   by_cases h0:0<tx.size
   ·have j0:(0:Int)<(tx.size:Int):=by omega
    go_wp2_with fail
    refine (HPK.out _).mono ?_
    rintro e w9 ⟨n,hn,rfl,rfl⟩
    clear HPK
    by_cases hnm:tx.size<n
    ·have j1:(tx.size:Int)<(n:Int):=by omega
     have HWO:=hide (show Calls Tryd.prog 20 #[.pointer (some ⟨wb,0,none⟩),.string tx] w9 (WroteN wb sk g key text hd j (tx.size) w9) from piece_call HTX.out tx (tx.size) (by exact tx_all tx) (write_okN (tx.size) HOK.out HKY.out HX.out (by have:=HTS.out;have:=HJ.out;omega) HNE.out.1 HNE.out.2.1 HNE.out.2.2))
     clear HOK
     go_wp2_with fail
     refine HWO.out.mono ?_
     rintro e w10 ⟨rfl,hok2,hc10⟩
     have H2:=hide hok2
     have HC10:=hide (HCH.out.trans hc10)
     clear hok2 hc10 HWO
     go_wp2
     go_roundw
     case rel=>exact ⟨j+(tx.size),k+1,by have:=HTS.out;have:=HJ.out;omega,by have:=HKJ.out;omega,congrArg Value.string (tx_drop HTX.out HJ.out (tx.size) (tx_end tx)),by go_num,H2.out,HC10.out⟩
     case measure=>have:=HKJ.out;have:=HTS.out;have:=HJ.out;simp[intOf,strLen];omega
    ·have j1:¬ (tx.size:Int)<(n:Int):=by omega
     by_cases hn0:n=0
     ·subst hn0
      by_cases hk1:100<k
      ·have j2:(100:Int)<(k:Int):=by omega
       have HWO:=hide (show Calls Tryd.prog 20 #[.pointer (some ⟨wb,0,none⟩),.string tx] w9 (WroteN wb sk g key text hd j (tx.size) w9) from piece_call HTX.out tx (tx.size) (by exact tx_all tx) (write_okN (tx.size) HOK.out HKY.out HX.out (by have:=HTS.out;have:=HJ.out;omega) HNE.out.1 HNE.out.2.1 HNE.out.2.2))
       clear HOK
       go_wp2_with fail
       refine HWO.out.mono ?_
       rintro e w10 ⟨rfl,hok2,hc10⟩
       have H2:=hide hok2
       have HC10:=hide (HCH.out.trans hc10)
       clear hok2 hc10 HWO
       go_wp2
       go_roundw
       case rel=>exact ⟨j+(tx.size),k+1,by have:=HTS.out;have:=HJ.out;omega,by have:=HKJ.out;omega,congrArg Value.string (tx_drop HTX.out HJ.out (tx.size) (tx_end tx)),by go_num,H2.out,HC10.out⟩
       case measure=>have:=HKJ.out;have:=HTS.out;have:=HJ.out;simp[intOf,strLen];omega
      ·have j2:¬ (100:Int)<(k:Int):=by omega
       have HWO:=hide (show Calls Tryd.prog 20 #[.pointer (some ⟨wb,0,none⟩),.string ByteArray.empty] w9 (WroteN wb sk g key text hd j (0) w9) from piece_call HTX.out ByteArray.empty (0) (by exact tx_none tx) (write_okN (0) HOK.out HKY.out HX.out (by have:=HTS.out;have:=HJ.out;omega) HNE.out.1 HNE.out.2.1 HNE.out.2.2))
       clear HOK
       go_wp2_with fail
       refine HWO.out.mono ?_
       rintro e w10 ⟨rfl,hok2,hc10⟩
       have H2:=hide hok2
       have HC10:=hide (HCH.out.trans hc10)
       clear hok2 hc10 HWO
       go_wp2
       go_roundw
       case rel=>exact ⟨j+(0),k+1,by have:=HTS.out;have:=HJ.out;omega,by have:=HKJ.out;omega,congrArg Value.string (tx_drop HTX.out HJ.out (0) ((tx_all tx).symm)),by go_num,H2.out,HC10.out⟩
       case measure=>have:=HKJ.out;have:=HTS.out;have:=HJ.out;simp[intOf,strLen];omega
     ·have z0:((n:Int)==0)=false:=beq_eq_false_iff_ne.2 (by omega)
      have hle:n≤tx.size:=by omega
      have HWO:=hide (show Calls Tryd.prog 20 #[.pointer (some ⟨wb,0,none⟩),.string (tx.extract 0 n)] w9 (WroteN wb sk g key text hd j (n) w9) from piece_call HTX.out (tx.extract 0 n) (n) (by exact rfl) (write_okN (n) HOK.out HKY.out HX.out (by have:=HTS.out;have:=HJ.out;omega) HNE.out.1 HNE.out.2.1 HNE.out.2.2))
      clear HOK
      go_wp2_with fail
      refine HWO.out.mono ?_
      rintro e w10 ⟨rfl,hok2,hc10⟩
      have H2:=hide hok2
      have HC10:=hide (HCH.out.trans hc10)
      clear hok2 hc10 HWO
      go_wp2
      go_roundw
      case rel=>exact ⟨j+(n),k+1,by have:=HTS.out;have:=HJ.out;omega,by have:=HKJ.out;omega,congrArg Value.string (tx_drop HTX.out HJ.out (n) (rfl)),by go_num,H2.out,HC10.out⟩
      case measure=>have:=HKJ.out;have:=HTS.out;have:=HJ.out;simp[intOf,strLen];omega
   ·have j0:¬ (0:Int)<(tx.size:Int):=by omega
    have hk2:k<2:=by omega
    have jk:(k:Int)<2:=by omega
    go_wp2_with fail
    refine (HPK.out _).mono ?_
    rintro e w9 ⟨n,hn,rfl,rfl⟩
    clear HPK
    by_cases hnm:tx.size<n
    ·have j1:(tx.size:Int)<(n:Int):=by omega
     have HWO:=hide (show Calls Tryd.prog 20 #[.pointer (some ⟨wb,0,none⟩),.string tx] w9 (WroteN wb sk g key text hd j (tx.size) w9) from piece_call HTX.out tx (tx.size) (by exact tx_all tx) (write_okN (tx.size) HOK.out HKY.out HX.out (by have:=HTS.out;have:=HJ.out;omega) HNE.out.1 HNE.out.2.1 HNE.out.2.2))
     clear HOK
     go_wp2_with fail
     refine HWO.out.mono ?_
     rintro e w10 ⟨rfl,hok2,hc10⟩
     have H2:=hide hok2
     have HC10:=hide (HCH.out.trans hc10)
     clear hok2 hc10 HWO
     go_wp2
     go_roundw
     case rel=>exact ⟨j+(tx.size),k+1,by have:=HTS.out;have:=HJ.out;omega,by have:=HKJ.out;omega,congrArg Value.string (tx_drop HTX.out HJ.out (tx.size) (tx_end tx)),by go_num,H2.out,HC10.out⟩
     case measure=>have:=HKJ.out;have:=HTS.out;have:=HJ.out;simp[intOf,strLen];omega
    ·have j1:¬ (tx.size:Int)<(n:Int):=by omega
     have hn0:n=0:=by omega
     subst hn0
     have j2:¬ (100:Int)<(k:Int):=by omega
     have HWO:=hide (show Calls Tryd.prog 20 #[.pointer (some ⟨wb,0,none⟩),.string ByteArray.empty] w9 (WroteN wb sk g key text hd j (0) w9) from piece_call HTX.out ByteArray.empty (0) (by exact tx_none tx) (write_okN (0) HOK.out HKY.out HX.out (by have:=HTS.out;have:=HJ.out;omega) HNE.out.1 HNE.out.2.1 HNE.out.2.2))
     clear HOK
     go_wp2_with fail
     refine HWO.out.mono ?_
     rintro e w10 ⟨rfl,hok2,hc10⟩
     have H2:=hide hok2
     have HC10:=hide (HCH.out.trans hc10)
     clear hok2 hc10 HWO
     go_wp2
     go_roundw
     case rel=>exact ⟨j+(0),k+1,by have:=HTS.out;have:=HJ.out;omega,by have:=HKJ.out;omega,congrArg Value.string (tx_drop HTX.out HJ.out (0) ((tx_all tx).symm)),by go_num,H2.out,HC10.out⟩
     case measure=>have:=HKJ.out;have:=HTS.out;have:=HJ.out;simp[intOf,strLen];omega
  ·have hte:tx=ByteArray.empty:=ba_ext (by
    have h0:tx.data.toList.length=0:=by rw[ba_len];omega
    rw[List.eq_nil_of_length_eq_zero h0]
    rfl)
   have jk:¬ (k:Int)<2:=by omega
   have z2:decide ((k:Int)<2)=false:=decide_eq_false jk
   have hjx:j=text.size:=by have:=HTS.out;have:=HJ.out;omega
   have HCL:=hide (close_okN (by have h:=HOK.out;rw[hjx] at h;exact h) HKY.out HX.out HNE.out.1)
   clear HOK hjx HPI hgo
   subst hte
   go_wp2_with fail
   refine HCL.out.mono ?_
   rintro e w10 ⟨rfl,hW,hS,hc10⟩
   have HC10:=hide (HCH.out.trans hc10)
   have HCE:=hide (close_end wb 14 w10 hW (by decide))
   have HWE:=hide (fun m=>write_end wb 14 ⟨#[120]⟩ (w10.drewN m) (Blk.drewN hW m) (by decide))
   obtain ⟨K,hS,hg⟩:=hS
   have HS:=hide (And.intro hS hg)
   clear hW hS hg hc10 HCL
   go_wp2_with fail
   refine HCE.out.mono ?_
   rintro e w11 ⟨rfl,m1,rfl⟩
   clear HCE
   go_wp2_with fail
   refine (HWE.out m1).mono ?_
   rintro e w12 ⟨rfl,m2,rfl⟩
   clear HWE
   go_wp2
   go_ret
   exact ⟨rfl,⟨K,Blk.drewN HS.out.1 (m1+m2),HS.out.2⟩,HC10.out.trans (Chg.of_below (below_drewN (Below.refl _ _) (m1+m2)))⟩
set_option maxHeartbeats 400000 in
theorem sinkOf_nil (w:World):
  Calls Tryd.prog 10 #[.slice none 0 0] w fun e w'=>∃ b,e = .returned (.pointer (some ⟨b,0,none⟩))∧w.heap.size<b ∧
   Blk w' w.heap.size 3 (intV [])∧Blk w' b 56 [.string ⟨#[]⟩,.slice (some ⟨w.heap.size,0,none⟩) 0 0,.int .i64 0]∧Below w.heap.size w w':=by
 have hmk:∀ w,(Instr.makeSlice 43 (.int .i64 0) (.int .i64 0)).run Tryd.prog w = .ok (.slice (some ⟨w.heap.size,0,none⟩) 0 0) (w.alloc (.cells (intV (List.replicate 0 0)).toArray 3)):=fun w=>make_ints 0 (by decide) w
 go_enter Tryd.func10,Tryd.ntmps10
 go_wp2_with (refine wpList_copy_splice rfl (.tmp 7) (.tmp 8) 43 43 rfl 3 Tryd.underlying43 infoInt1 _ _ _ _ _ _ rfl rfl w.heap.size 0 (intV (List.replicate 0 0)) 3 ?_ (intV []) ?_ ?_ ?_ (intV_one _) w.heap.size w ?_ (Nat.le_refl _) ?_;exact Blk.new rfl rfl;rfl;(intro h;exact absurd h (by decide));(simp[intV]);exact (Below.refl _ _).alloc (Nat.le_refl _) _;intro w2 HB2 hbe2)
 go_ret
 have hB2:Blk w2 w.heap.size 3 (intV []):=HB2.out
 exact ⟨_,rfl,hB2.lt,hB2.alloc _,Blk.new rfl rfl,hbe2.alloc (Nat.le_of_lt hB2.lt) _⟩
theorem Strs.chg {S:Nat→Prop} {w w':World} {v:Value} {l:List ByteArray} (h:Strs w v l) (hC:Chg S w w') (hb:∀ g o n c,v = .slice (some ⟨g,o,none⟩) n c→0<l.length→¬ S g):Strs w' v l:=by
 have hlt:=h.blt
 rcases h with h | ⟨g,o,c,rfl,hc⟩
 ·exact .inl h
 ·refine .inr ⟨g,o,c,rfl,fun i x hx=>?_⟩
  have hl:0<l.length:=Nat.lt_of_le_of_lt (Nat.zero_le i) (List.getElem?_eq_some_iff.1 hx).1
  have h1:=hC.block g (hlt g o _ c rfl hl) (hb g o _ c rfl hl)
  have h2:=hc i x hx
  unfold World.cell? at h2 ⊢
  rw[h1]
  exact h2
theorem FlS.chg {S:Nat→Prop} {w:World} {v:Value} {l:List ByteArray} {wi wj:World} (h:FlS w v l wi) (hC:Chg S wi wj) (hS:∀ k,S k→w.heap.size≤k) (hv:∀ g o n c,v = .slice (some ⟨g,o,none⟩) n c→0<l.length→¬ S g):FlS w v l wj:=
 ⟨h.two,hC.tabs h.tabs (fun e=>by have:=hS 0 e;have:=h.two;omega) (fun e=>by have:=hS 1 e;have:=h.two;omega),h.strs.chg hC hv,h.be.trans ⟨hC.os,hC.tape,hC.output,hC.size,fun k hk=>hC.block k (Nat.lt_of_lt_of_le hk h.be.size) (fun e=>by have:=hS k e;omega)⟩⟩
def restB:ByteArray:=⟨#[114,101,115,116]⟩
def MadeP (text:ByteArray) (w:World) (e:Ending) (w':World):Prop:=∃ fb v vb l d,e = .returned (.tuple #[.pointer (some ⟨fb,0,none⟩),.bool true])∧w.heap.size≤fb∧1≤l.length∧l.length≤3∧(∀ m ∈ l,m.size=32)∧d.size=16*(l.length+2)∧FileR fb v vb l d text (fileB l d text) (Ref.head l d 0) (Ref.pkey l d 0) w'∧Below w.heap.size w w'∧Tabs w'
theorem made_start {l:List ByteArray} {d:ByteArray} (text:ByteArray) (hd:d.size=16*(l.length+2)) (h1:1≤l.length) (h3:l.length≤3) (hm:∀ m ∈ l,m.size=32) {wb sk g:Nat} {w:World} (hR:WRep wb sk g (Ref.pkey l (d++restB) 0) ⟨0,[],Ref.newK l (d++restB) 0 ⟨⟨#[]⟩,[],0⟩⟩ w):
  OkN wb sk g (Ref.pkey l d 0) text ((Ref.head l d 0).data.toList++(Ref.pdraw l d 0).data.toList) 0 w:=by
 have hz:(d++restB).size=d.size+4:=ba_sz _ _
 have hE:Ref.beginE l (d++restB) 0=0:=Ref.begin_good h1 h3 hm (by omega)
 obtain ⟨f1,f2,f3,f4,f5⟩:=file_left l d restB hd text.data.toList
 have hok:∀ (k:Snk) t,k.plan=[]→k.ok t=true:=fun k t h=>Snk.ok_nil h t
 have hne:Ref.newE l (d++restB) 0 ⟨⟨#[]⟩,[],0⟩=0:=by
  rw[Ref.newE_eq hE,if_neg (by rw[hok _ _ rfl];simp)]
  unfold Snk.err
  rw[hok _ _ rfl]
  rfl
 have hG:=Ref.new_good hE (k:=⟨⟨#[]⟩,[],0⟩) rfl text.data.toList hne
 obtain ⟨r1,r2,r3⟩:=Ref.new_room (k:=⟨⟨#[]⟩,[],0⟩) hE rfl rfl
 rw[f2,f3,f4] at hG
 rw[f3] at hR
 exact ⟨_,hR,hG,Nat.zero_le _,r1,r2,r3⟩
theorem made_zero {l:List ByteArray} {d:ByteArray} (hd:d.size=16*(l.length+2)) (h1:1≤l.length) (h3:l.length≤3) (hm:∀ m ∈ l,m.size=32):Ref.newE l (d++restB) 0 ⟨⟨#[]⟩,[],0⟩=0∧Ref.beginP l (d++restB) 0=d.size:=by
 have hz:(d++restB).size=d.size+4:=ba_sz _ _
 have hE:Ref.beginE l (d++restB) 0=0:=Ref.begin_good h1 h3 hm (by omega)
 have hok:∀ (k:Snk) t,k.plan=[]→k.ok t=true:=fun k t h=>Snk.ok_nil h t
 have hc:Ref.chkM l=0:=by
  unfold Ref.beginE at hE
  by_cases hc:Ref.chkM l=0
  ·exact hc
  ·rw[if_pos hc] at hE;exact absurd hE hc
 refine ⟨?_,?_⟩
 ·rw[Ref.newE_eq hE,if_neg (by rw[hok _ _ rfl];simp)]
  unfold Snk.err
  rw[hok _ _ rfl]
  rfl
 ·unfold Ref.beginP canDraw
  rw[if_neg (by rw[hc];simp),hz]
  omega
set_option maxRecDepth 100000 in
set_option maxHeartbeats 3200000 in
theorem made_any (text who:ByteArray) (turn c:Int) (w:World) (ht:Tabs w) (hx:text.size≤268435456) (hw:who.size≤9223372036854775807) (t1 : -9223372036854775808≤turn) (t2:turn≤9223372036854775807) (c1 : -9223372036854775808≤c) (c2:c≤9223372036854775807):
  Calls Tryd.prog 5 #[.string text,.string who,.int .i64 turn,.int .i64 c] w (MadeP text w):=by
 have HMS:=hide (masters_any who w hw)
 have HDR:=hide (fun n w hn=>draws_any c n w c1 c2 hn)
 have HX:=hide hx
 have HT:=hide ht
 have HTR:=hide (And.intro t1 t2)
 clear ht hx hw t1 t2 c1 c2
 go_enter Tryd.func5,Tryd.ntmps5
 go_wp2_with fail
 refine HMS.out.mono ?_
 rintro e w1 ⟨v,rfl,l,hr,_,h1,h3,hm,hb1⟩
 have F1:=hide (show FlS w v l w1 from ⟨HT.out.two,HT.out.after hb1,Row.strs hr,hb1⟩)
 have HM:=hide (And.intro h1 (And.intro h3 hm))
 obtain ⟨ao,cap,rfl,hd1,hd2⟩:=Row.anyN hr
 clear hr hb1 hm HMS HT hd1 hd2
 obtain ⟨n,hn⟩:∃ n:Nat,l.length=n:=⟨_,rfl⟩
 rw[hn] at F1 h1 h3
 rw[hn]
 have HNN:=hide hn
 clear hn
 obtain ⟨n2,hn2⟩:∃ x:Nat,n+2=x:=⟨_,rfl⟩
 have tn:(n:Int)+2=(n2:Int):=by omega
 have HD1:=hide (HDR.out n2 w1 (by omega))
 have HN2:=hide hn2
 have n2b:n2≤5:=by omega
 clear HDR hn2
 go_wp2_with fail
 refine HD1.out.mono ?_
 rintro e w2 ⟨d,hds,rfl,hb2⟩
 have F2:=hide (F1.out.after hb2)
 have HDS:=hide (show d.size=16*(l.length+2) by rw[hds,←HN2.out,HNN.out])
 have hdz:d.size≤80:=by omega
 have u1:¬ (9223372036854775807<d.size+4):=by omega
 clear hb2 F1 HD1 hds tn
 obtain ⟨dr,hdr⟩:∃ x,d++(⟨#[114,101,115,116]⟩:ByteArray)=x:=⟨_,rfl⟩
 have hdrz:dr.size=d.size+4:=by rw[←hdr];exact ba_sz _ _
 have HDR:=hide (show d++restB=dr from hdr)
 go_wp2_with fail
 refine (springOf_any dr _).mono ?_
 rintro e w3 ⟨rfl,hB3,hb3⟩
 have F3:=hide (F2.out.after hb3)
 have HB3:=hide (show Blk w3 w2.heap.size 54 (springCells dr 0) from hB3)
 have A3:=hide (F2.out.apart (Nat.le_refl _))
 have hge2:=F2.out.be.size
 have hl3:=hB3.lt
 clear hb3 hB3 hdr
 go_wp2_with fail
 refine (sinkOf_nil _).mono ?_
 rintro e w4 ⟨sk,rfl,hsk,hG4,hS4,hb4⟩
 have F4:=hide (F3.out.after hb4)
 have HB4:=hide (HB3.out.below hb4 HB3.out.lt)
 have hl4:=hS4.lt
 have HNW:=hide (newWriter_any _ l w2.heap.size dr 0 sk w3.heap.size ⟨⟨#[]⟩,[],0⟩ w4 F4.out.tabs F4.out.strs A3.out (by rw[HNN.out];omega) HB4.out (Nat.le_trans F2.out.two F2.out.be.size) (Nat.zero_le _) (by omega) hS4 hG4 (by omega) (by omega) (by omega) (by show 0+3000<_;decide) (by show 0+10<_;decide))
 have hG4':=hG4
 have hMZ:=made_zero HDS.out HM.out.1 HM.out.2.1 HM.out.2.2
 rw[HDR.out] at hMZ
 have HG4:=hide hG4
 clear hb4 hS4 hG4 hG4' HB3 HB4 F3
 go_wp2_with fail
 refine HNW.out.mono ?_
 rintro e w5 ⟨pv,rfl,_,hn2,hS5,hB5,hC5⟩
 obtain ⟨wb,hwb,rfl,hWb⟩:=hn2 hMZ.1
 rw[hMZ.1]
 rw[hMZ.2] at hB5
 have hR5:WRep wb sk w3.heap.size (Ref.pkey l dr 0) ⟨0,[],Ref.newK l dr 0 ⟨⟨#[]⟩,[],0⟩⟩ w5:=by
  refine ⟨⟨nought 16,rfl,rfl,hWb⟩,Nat.zero_le _,hS5,?_⟩
  have h:=hC5.blk HG4.out (fun e=>by omega)
  have hE:Ref.beginE l dr 0=0:=Ref.begin_good HM.out.1 HM.out.2.1 HM.out.2.2 (by have:=HDS.out;omega)
  rw[(Ref.new_room (k:=⟨⟨#[]⟩,[],0⟩) hE rfl rfl).2.2]
  exact h
 rw[←HDR.out] at hR5
 have HO5:=hide (made_start text HDS.out HM.out.1 HM.out.2.1 HM.out.2.2 hR5)
 have F5:=hide (F4.out.chg hC5 (fun k hk=>by omega) (fun g o n c e hl=>by
  have:=A3.out g o n c e hl
  have:=F2.out.strs.blt g o n c e hl
  omega))
 have HB5:=hide hB5
 have hwl5:=hWb.lt
 clear hn2 hS5 hB5 hC5 hWb hR5 HNW HG4 F4
 have HWR:=hide (written_any wb sk w3.heap.size _ text _ turn w5 HO5.out (Ref.pkey_size _ _ _) HX.out HTR.out.1 HTR.out.2 (by omega) (by omega) (by omega))
 go_wp2_with fail
 refine HWR.out.mono ?_
 rintro e w6 ⟨rfl,⟨k6,hS6,hgot⟩,hC6⟩
 have F6:=hide (F5.out.chg hC6 (fun k hk=>by omega) (fun g o n c e hl=>by
  have:=F2.out.strs.blt g o n c e hl
  omega))
 have hB6:=hC6.blk HB5.out (fun e=>by omega)
 have x0:=hB6.cell (i:=0) rfl
 have x1:=hB6.cell (i:=1) rfl
 have hle:IntKind.i64.wrap ((dr.size:Int)-(d.size:Int))=4:=(IntWalk.i64_in _ (by omega)).trans (by omega)
 have HLF:=hide (springLeft_any w2.heap.size dr (d.size:Nat) w6 x0 x1)
 rw[hle] at HLF
 have hg2:k6.got=fileB l d text:=hgot
 have HGT:=hide (fun m=>sinkGot_any sk k6.got (w6.drewN m) ((Blk.drewN hS6 m).cell (i:=0) rfl))
 rw[hg2] at HGT
 have hsk6:w2.heap.size<w6.heap.size:=hB6.lt
 clear hS6 hgot hC6 HWR HO5 HB5 hB6 x0 x1 hle hg2 F5
 go_wp2_with fail
 refine HLF.out.mono ?_
 rintro e w7 ⟨rfl,m7,rfl⟩
 have F7:=hide (F6.out.after (below_drewN (Below.refl _ _) m7))
 have HG7:=hide (HGT.out m7)
 have hw7:w2.heap.size<(w6.drewN m7).heap.size:=hsk6
 generalize w6.drewN m7=w7 at *
 clear HLF HGT F6 hsk6
 have HFF:=hide (file_facts l d text HM.out.1 HM.out.2.1 HDS.out)
 have HKN:=hide (known_any _ l d text (fileB l d text) _ _ _ _ _ _ _ l.length w7 F7.out.tabs F7.out.strs HM.out.1 HM.out.2.1 HM.out.2.2 HDS.out HX.out HFF.out)
 have HEN:=hide (fun b (w':World) hf hb hge hv=>encrypt_any (.slice ao n cap) l b d 0 text w' (FlS.tabs (w:=w) hf) (FlS.strs hf) hv (by rw[HNN.out];omega) hb (Nat.le_trans F2.out.two hge) (Nat.zero_le _) (by omega) (by have:=HX.out;omega))
 have hE:Ref.beginE l d 0=0:=Ref.begin_good HM.out.1 HM.out.2.1 HM.out.2.2 (by have:=HDS.out;omega)
 have HE:=hide hE
 have HFB:=hide (show fileB l d text=⟨(Ref.file l d 0 text.data.toList).toArray⟩ from rfl)
 generalize fileB l d text=BF at *
 clear hE
 go_wp2_with fail
 refine HG7.out.mono ?_
 rintro e w8 ⟨rfl,rfl⟩
 clear HG7
 go_wp2_with fail
 refine HKN.out.mono ?_
 rintro e w9 ⟨vb,rfl,hR9,hb9⟩
 have F9:=hide (F7.out.after hb9)
 have R9:=hide hR9
 have hsz9:=hb9.size
 have hge7:=F7.out.be.size
 clear HKN hR9 hb9
 go_wp2_with fail
 refine (springOf_any d _).mono ?_
 rintro e w10 ⟨rfl,hB10,hb10⟩
 have F10:=hide (F9.out.after hb10)
 have R10:=hide (FileR.mk (R9.out.blk.below hb10 R9.out.blk.lt) (R9.out.ms.after hb10) (R9.out.bx.after hb10))
 have A10:=hide (F9.out.apart (Nat.le_refl _))
 have A11:=hide (fun g o n c (e:vb = .slice (some ⟨g,o,none⟩) n c) hl=>Nat.ne_of_lt (R9.out.bx.blt g o n c e hl))
 have hf9:=R9.out.blk.lt
 have HEC:=hide (HEN.out w9.heap.size w10 F10.out hB10 (by omega) A10.out)
 clear hb10 hB10 F9 R9 HEN
 go_wp2_with fail
 refine HEC.out.mono ?_
 rintro e w11 ⟨rfl,_,hG11⟩
 rw[HE.out,if_pos rfl,←HFB.out]
 have F11:=hide (F10.out.grown hG11 (by omega) A10.out)
 have R11:=hide (FileR.mk (R10.out.blk.grown hG11 (fun e=>by injection e with e;omega)) (R10.out.ms.grown hG11 A10.out) (R10.out.bx.grown hG11 A11.out))
 clear hG11 HEC F10 R10 A10 A11
 go_wp2
 refine bodyPost_ret (results_tmp2 rfl _ _ _) rfl ?_
 exact ⟨w8.heap.size,.slice ao n cap,vb,l,d,rfl,hge7,HM.out.1,HM.out.2.1,HM.out.2.2,HDS.out,by rw[HFB.out] at R11;exact R11.out,F11.out.be,F11.out.tabs⟩
end Go.Proofs.YtngplkagmodgpaaDoor
namespace Go.Proofs.YtngplkagmodgpaaDoor
open Go.ChangeShapes Go.WideShapes Go.ChangeAt Go.RowKit Go.Deep
theorem own:ownKnob Tryd.prog.godebug=none:=by kernel_rfl
theorem gH : Tryd.prog.globalNamed "strongbox/sha2.firstWords" = some 0 := by kernel_rfl
theorem gK : Tryd.prog.globalNamed "strongbox/sha2.roundWords" = some 1 := by kernel_rfl
theorem gHt:(Tryd.prog.globals[0]?).map (·.type)=some 119:=by kernel_rfl
theorem gKt:(Tryd.prog.globals[1]?).map (·.type)=some 137:=by kernel_rfl
theorem c8:Tryd.prog.cellsOf 119=8:=by kernel_rfl
theorem c64:Tryd.prog.cellsOf 137=64:=by kernel_rfl
theorem c32:Tryd.prog.cellsOf 102=1:=by kernel_rfl
theorem tabs2 {W : World} (h' : laidMet Tryd.prog [("strongbox/sha2.firstWords", Lib.tabData .u32 (Sha.H0.list.map fun (n : Nat) => (n : Int))), ("strongbox/sha2.roundWords", Lib.tabData .u32 (Sha.Kt.map fun (n : Nat) => (n : Int)))] W) : HTab W ∧ KTab W := by
 have t1:=Lib.tabIs_of_head gH gHt Tryd.underlying119 Tryd.underlying102 c32 c8 h'
 have t2:=Lib.tabIs_of_head gK gKt Tryd.underlying137 Tryd.underlying102 c32 c64 h'.tail
 refine ⟨fun i hi=>?_,fun i hi=>?_⟩
 ·have hl:i<Sha.H0.list.length:=hi
  rw[t1.cell gH i (by simpa using hl)]
  simp[Sha.wAt,List.getD,hl]
 ·have hl:i<Sha.Kt.length:=hi
  rw[t2.cell gK i (by simpa using hl)]
  simp[Sha.wAt,List.getD,hl]
def laidIn (ns:List Nat):Obj→Obj
 | .cells _ t frozen=>.cells (ns.map fun (n:Nat)=>Value.int .u32 (n:Int)).toArray t frozen
 | o=>o
def laidWorld (P:Program) (os:Os):World:=
 { World.holding P os ⟨#[],#[],[]⟩ with heap:=((World.holding P os ⟨#[],#[],[]⟩).heap.modify 0 (laidIn Sha.H0.list)).modify 1 (laidIn Sha.Kt) }
theorem open_text0 {H:Type} {enc:TypeId × Value→H} {P:Program} {t:TypeId} (ht:P.underlying t=some .string) {W:World} {r:Reach} {b0 base:Nat} {sp:Nat→Bool} {held:Bool} {v:Value} {d:DataW H} {ps:List MemPlace} (hval:Value.okWide P W r b0 t v) (hd:DataW.Trod enc P W base sp held t v d ps):
  ∃ s:ByteArray,v = .string s∧d = .lit (.string s.data.toList)∧ps=[]∧s.size≤maxLen:=by
 obtain ⟨s,rfl⟩:=okWide_string ht hval
 obtain ⟨fuel,hf⟩:=hd
 obtain ⟨s',h,hx,hs⟩:=DataW.trod_string ht hf
 simp[Value.cells] at h
 subst h
 simp only[Prod.mk.injEq] at hx
 exact ⟨s,rfl,hx.1,hx.2,hs⟩
theorem shut_text0 {H:Type} {enc:TypeId × Value→H} {P:Program} {t:TypeId} (ht:P.underlying t=some .string) {W:World} {base:Nat} {sp:Nat→Bool} {held:Bool} {s:ByteArray} (hs:s.size≤maxLen):DataW.Trod enc P W base sp held t (.string s) (.lit (.string s.data.toList)) []:=
 ⟨1,by simp[DataW.trod,Value.cells,ht,hs]⟩
set_option maxRecDepth 100000 in
theorem open_text {H:Type} {enc:TypeId × Value→H} {W:World} {r:Reach} {b0 base:Nat} {sp:Nat→Bool} {held:Bool} {v:Value} {d:DataW H} {ps:List MemPlace} (hval:Value.okWide Tryd.prog W r b0 9 v) (hd:DataW.Trod enc Tryd.prog W base sp held 9 v d ps):
  ∃ s:ByteArray,v = .string s∧d = .lit (.string s.data.toList)∧ps=[]∧s.size≤maxLen:=open_text0 Tryd.underlying9 hval hd
set_option maxRecDepth 100000 in
theorem shut_text {H:Type} {enc:TypeId × Value→H} {W:World} {base:Nat} {sp:Nat→Bool} {held:Bool} {s:ByteArray} (hs:s.size≤maxLen):DataW.Trod enc Tryd.prog W base sp held 9 (.string s) (.lit (.string s.data.toList)) []:=shut_text0 Tryd.underlying9 hs
theorem open_int0 {H:Type} {enc:TypeId × Value→H} {P:Program} {t:TypeId} (ht:P.underlying t=some (.int .i64)) {W:World} {r:Reach} {b0 base:Nat} {sp:Nat→Bool} {held:Bool} {v:Value} {d:DataW H} {ps:List MemPlace} (hval:Value.okWide P W r b0 t v) (hd:DataW.Trod enc P W base sp held t v d ps):
  ∃ n:Int,v = .int .i64 n∧d = .lit (.int .i64 n)∧ps=[]∧(Lit.int .i64 n).wf=true:=by
 obtain ⟨n,rfl⟩:=okWide_int ht hval
 obtain ⟨fuel,hf⟩:=hd
 obtain ⟨m,h,hx,hs⟩:=DataW.trod_int ht hf
 simp[Value.cells] at h
 subst h
 simp only[Prod.mk.injEq] at hx
 exact ⟨n,rfl,hx.1,hx.2,hs⟩
set_option maxRecDepth 100000 in
theorem open_intA {H:Type} {enc:TypeId × Value→H} {W:World} {r:Reach} {b0 base:Nat} {sp:Nat→Bool} {held:Bool} {v:Value} {d:DataW H} {ps:List MemPlace} (hval:Value.okWide Tryd.prog W r b0 3 v) (hd:DataW.Trod enc Tryd.prog W base sp held 3 v d ps):
  ∃ n:Int,v = .int .i64 n∧d = .lit (.int .i64 n)∧ps=[]∧(Lit.int .i64 n).wf=true:=open_int0 Tryd.underlying3 hval hd
set_option maxRecDepth 100000 in
theorem shut_intA {H:Type} {enc:TypeId × Value→H} {W:World} {base:Nat} {sp:Nat→Bool} {held:Bool} {n:Int} (hn:(Lit.int .i64 n).wf=true):DataW.Trod enc Tryd.prog W base sp held 3 (.int .i64 n) (.lit (.int .i64 n)) []:=
 ⟨1,Go.ChangeShapes.trod_int_mk 0 Tryd.underlying3 hn⟩
theorem wfB {n:Int} (h:(Lit.int .i64 n).wf=true) : -9223372036854775808≤n∧n≤9223372036854775807:=by
 simp only[Lit.wf,Bool.and_eq_true,decide_eq_true_eq] at h
 have h1:IntKind.i64.min = -9223372036854775808:=rfl
 have h2:IntKind.i64.max=9223372036854775807:=rfl
 omega
theorem mk4 {H:Type} {enc:TypeId × Value→H} {P:Program} {w:World} {base:Nat} {sp:Nat→Bool} {held:Bool} {t t' t'' t3:TypeId} {v v' v'' v3:Value} {d d' d'' d3:DataW H} (h:DataW.Trod enc P w base sp held t v d []) (h':DataW.Trod enc P w base sp held t' v' d' []) (h'':DataW.Trod enc P w base sp held t'' v'' d'' []) (h3:DataW.Trod enc P w base sp held t3 v3 d3 []):
  DataW.TrodAll enc P w base sp held [t,t',t'',t3] [v,v',v'',v3] [d,d',d'',d3] []:=⟨[],[],h,trodAll_mk3 h' h'' h3,rfl⟩
set_option maxRecDepth 100000 in
theorem writtenLaw_any (s t:ByteArray) (a b:Int) (w:World) (hs:s.size≤maxLen) (ht:t.size≤maxLen) (a1 : -9223372036854775808≤a) (a2:a≤9223372036854775807) (b1 : -9223372036854775808≤b) (b2:b≤9223372036854775807) (hT:Tabs w):
  Calls Tryd.prog 3 #[.string s,.string t,.int .i64 a,.int .i64 b] w fun e w'=>e = .returned (.bool true)∧Below w.heap.size w w':=by
 unfold maxLen at hs ht
 by_cases h1:268435456<s.size
 ·have z1:(decide ((268435456:Int)<(s.size:Int)))=true:=by simp;omega
  go_enter Tryd.func3,Tryd.ntmps3
  go_wp2
  go_ret
  exact ⟨rfl,Below.refl _ _⟩
 ·have z1:(decide ((268435456:Int)<(s.size:Int)))=false:=by simp;omega
  have HF:=hide (made_any s t a b w hT (by omega) (by omega) a1 a2 b1 b2)
  go_enter Tryd.func3,Tryd.ntmps3
  go_wp2_with fail
  refine HF.out.mono ?_
  rintro e w1 ⟨fb,v,vb,l,d,rfl,_,_,_,_,_,_,hb1,_⟩
  have HB:=hide hb1
  clear hb1 HF
  go_wp2
  go_ret
  exact ⟨rfl,HB.out⟩
set_option maxRecDepth 100000 in
theorem written_contract (H:Type) (enc:TypeId × Value→H) (W:World) (base:Nat) (args:Array Value) (ds gs:List (DataW H)) (before:List MemPlace)
  (hval:∀ (j:Nat) t v,Tryd.f3.params[j]? = some t→args[j]? = some v→Value.okWide Tryd.prog W .any base t v)
  (hW:DataW.Whole enc Tryd.prog Tryd.f3.params.toList Rows.writtenSpec.vars false W args.toList ds gs before)
  (hL:laidMetH Tryd.prog Rows.writtenRow.laid W):
  Calls Tryd.prog 3 args W fun e W'=>∃ v,e = .returned v∧Rows.writtenSpec.post enc Tryd.prog Tryd.f3 false true false false W args v W':=by
 have hW':=hW
 obtain ⟨p,q,hA0,hV,rfl,hfz,hnd⟩:=hW
 have hA:DataW.TrodAll enc Tryd.prog W 0 (fun _=>true) true Tryd.f3.params.toList args.toList ds p:=hA0
 rw[Tryd.params3] at hA hval
 obtain ⟨v0,v1,v2,v3,d0,d1,d2,d3,p0,p1,p2,p3,rfl,rfl,rfl,h0,h1,h2,h3⟩:=trodAll_four hA
 obtain ⟨rfl,rfl⟩:=trodVars_none hV
 obtain ⟨s,rfl,rfl,rfl,hs⟩:=open_text (hval 0 9 v0 rfl rfl) h0
 obtain ⟨t,rfl,rfl,rfl,ht⟩:=open_text (hval 1 9 v1 rfl rfl) h1
 obtain ⟨a,rfl,rfl,rfl,hia⟩:=open_intA (hval 2 3 v2 rfl rfl) h2
 obtain ⟨b,rfl,rfl,rfl,hib⟩:=open_intA (hval 3 3 v3 rfl rfl) h3
 clear hA0 hfz hnd
 simp only[List.append_nil] at hW'
 obtain ⟨hh,hk⟩:=tabs2 hL
 have h2:2≤W.heap.size:=World.block_lt_of_cell? W _ (hk 0 (by decide))
 refine (writtenLaw_any s t a b W hs ht (wfB hia).1 (wfB hia).2 (wfB hib).1 (wfB hib).2 ⟨hk,hh,h2⟩).mono fun e W' ⟨he,hb⟩=>?_
 subst he
 refine ⟨_,rfl,_,_,_,[],[],[],hW',?_,mk4 (shut_text hs) (shut_text ht) (shut_intA hia) (shut_intA hib),rfl,hb.frame _,fun h=>by cases h⟩
 exact trodAll_mk1 (shut_bool Tryd.underlying4 _)
theorem written_laid_met (os:Os):laidMet Tryd.prog Rows.writtenRow.laid ((laidWorld Tryd.prog os).forCall (fun _ _=>0) ⟨#[],#[.string ⟨#[]⟩,.string ⟨#[]⟩,.int .i64 0,.int .i64 0],[]⟩).memory:=
 laidMet_of_run' 8 (by kernel_rfl) (by kernel_rfl)
theorem written_reads (os:Os) {H:Type} (enc:TypeId × Value→H):∃ places,DataW.whole enc Tryd.prog ((laidWorld Tryd.prog os).forCall (fun _ _=>0) ⟨#[],#[.string ⟨#[]⟩,.string ⟨#[]⟩,.int .i64 0,.int .i64 0],[]⟩).memory Tryd.f3.params.toList Rows.writtenSpec.vars false #[Value.string ⟨#[]⟩,Value.string ⟨#[]⟩,Value.int .i64 0,Value.int .i64 0].toList 8=some ([.lit (.string []),.lit (.string []),.lit (.int .i64 0),.lit (.int .i64 0)],[],places):=
 ⟨[],by kernel_rfl⟩
set_option maxRecDepth 100000 in
theorem written_lifted (os:Os) (started:os.Started) (H:Type) (enc:TypeId × Value→H) (F:Stop.Interp):
  ReturnsInHanded {} Tryd.checked os 3 .any ((OpenSpec.ofChange Rows.writtenSpec).preRow enc Tryd.prog Tryd.f3 Rows.writtenRow.domain false Rows.writtenRow.laid) (((OpenSpec.ofChange Rows.writtenSpec).at F).post enc Tryd.prog Tryd.f3 false true false false):=by
 obtain ⟨places,hx⟩:=written_reads os enc
 refine returnsInHanded_of_row (C:=Tryd.checked) (s:=OpenSpec.ofChange Rows.writtenSpec) own started (by kernel_rfl) Tryd.func3
  (witness_row_at (enc:=enc) (C:=Tryd.checked) false (laidWorld Tryd.prog os) #[.string ⟨#[]⟩,.string ⟨#[]⟩,.int .i64 0,.int .i64 0] rfl (by kernel_rfl) (by kernel_rfl) (by kernel_rfl)
   (OpenSpec.preRow_of_cond 8 hx (by kernel_rfl) (fun k hk=>by cases hk) (by kernel_rfl) (written_laid_met os))) ?_
 intro W base args ds gs before hval hW _ _ _ hL _ _
 exact written_contract H enc W base args ds gs before hval hW hL
theorem written_j1:Tryd.prog.inPlace 3=Rows.writtenRow.inPlace:=by kernel_rfl
theorem written_j2:Tryd.prog.unfollowed 3=Rows.writtenRow.unfollowed:=by kernel_rfl
theorem written_j3:Tryd.prog.recurses 3=Rows.writtenRow.recurses:=by kernel_rfl
theorem written_j4:Tryd.prog.varsNamed 3=Rows.writtenRow.named:=by kernel_rfl
theorem written_j:joinedFacts Tryd.prog 3 Tryd.f3 (OpenSpec.ofChange Rows.writtenSpec).bare Rows.writtenRow=true:=by
 unfold joinedFacts
 rw[written_j1,written_j2,written_j3,written_j4]
 kernel_rfl
theorem written_said:Rows.WrittenSaid:=
 OpenClaim.holds_of_cond 3 Tryd.f3 rfl rfl rfl rfl rfl rfl rfl ⟨rfl,rfl,rfl,rfl,rfl⟩ rfl rfl rfl rfl rfl (by kernel_rfl) Tryd.func3 written_j
  (of_decide_eq_true (by kernel_rfl)) (by unfold Func.isWrapper;first | (rw[if_pos (by decide +kernel)];kernel_rfl) | (rw[if_neg (by decide +kernel)];exact ⟨rfl,rfl⟩))
  (fun os started H enc _ F=>by rw[OpenClaim.pre_eq_preRow];exact written_lifted os started H enc F)
theorem written_plain (f : FuncId) (fn : Func) (hf : Tryd.pinned.checked.prog.funcNamed "strongbox/strongboxkeep.Written" = some f) (hfn : Tryd.pinned.checked.prog.funcs[f]? = some fn) :
  false = Tryd.pinned.checked.prog.looks []∧∀ (j:Nat) t,fn.params[j]? = some t→Tryd.pinned.checked.prog.wantsStandIn t=false:=by
 obtain rfl : f = 3 := Option.some.inj ((show Tryd.prog.funcNamed "strongbox/strongboxkeep.Written" = some 3 by kernel_rfl).symm.trans hf) |>.symm
 obtain rfl:fn = Tryd.f3:=(Option.some.inj (Tryd.func3.symm.trans hfn)).symm
 refine ⟨by kernel_rfl,fun j t ht=>?_⟩
 rw[Tryd.params3] at ht
 have hm:t=9∨t=3:=by simpa using Array.mem_of_getElem? ht
 rcases hm with rfl | rfl
 ·exact (show Tryd.prog.wantsStandIn 9=false by kernel_rfl)
 ·exact (show Tryd.prog.wantsStandIn 3=false by kernel_rfl)
theorem written_card:Rows.WrittenCardSaid:=
 Claim7.holds_tied_plain_at .later [] _ _ _ _ (written_said) (fun _ h=>by cases h) (by kernel_rfl) (fun _ h=>by cases h) written_row_tie rfl ⟨rfl,rfl⟩ (by kernel_rfl) rfl written_plain (by kernel_rfl)
end Go.Proofs.YtngplkagmodgpaaDoor
