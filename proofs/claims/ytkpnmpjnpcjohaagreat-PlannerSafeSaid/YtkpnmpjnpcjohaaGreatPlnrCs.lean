import Derived.Test.YtkpnmpjnpcjohaaGreatPlnrLibs
import Derived.Lib.Overlaps
import Derived.Deep.DeepCutAuto
import Derived.Test.YtkpnmpjnpcjohaaGreatPlanSmalls
set_option linter.unusedSimpArgs false
set_option linter.unusedVariables false
set_option maxHeartbeats 8000000
set_option maxRecDepth 100000
namespace Go.Proofs.YtkpnmpjnpcjohaaGreat
open ChangeShapes WideShapes ChangeAt RowKit Mem FleetMath Rec
namespace Pln
theorem p_E(base n c i:Nat)(A:Option Addr)(xs vs:List Value)(g:Nat)(w:World)(ho:OwnK w base 33 6 (.slice A n c) n xs)(hbase:base≤w.heap.size)(h1:∀u∈xs,u.oneCell'=true)(hg:Blk w g 33 vs)(hvl:vs.length=6)(h1v:∀u∈vs,u.oneCell'=true)(hne:(Value.slice A n c).ownBlock≠some g)(hi:i≤n)(hn:n≤64):
 Calls Tryz.prog 54 #[.slice A n c,.int .i64 (i:Int),.slice (some ⟨g,0,none⟩) 1 1] w (j_q w base 33 6 (.slice A n c) (n+1) (putIn xs i 6 vs)):=by
 have hxl:xs.length=n*6:=ho.len;have HOWN:=Lib.hid ho;have hsrc:∀j v,vs[j]?=some v→w.cell? ((Addr.mk g 0 none).add j)=some v:=fun j v hv=>by rw[b_n,Nat.zero_add];exact hg.cell hv
 have hgl:=hg.lt;have HG:=Lib.hid hg;by_cases hin:i=n
 ·subst hin
  have HCE:Hid (putIn xs i 6 vs=xs++vs):=by
   show _=_;unfold putIn;rw[List.take_of_length_le (by omega),List.drop_of_length_le (by omega),List.append_nil]
  rw[HCE.out];have hcnil:¬((1:Int)=0):=by omega
  have hcc:i≤c:=by obtain⟨_,_,e,h,_⟩:=ho.read;injection e with _ _ e;rw[e];exact h
  clear ho hg hsrc;rcases Nat.eq_or_lt_of_le hcc with hce|hce
  ·subst hce
   go_enter Tryz.func54,Tryz.ntmps54;go_wp2_with (at_builtin;refine a_x (o:=⟨some 25,_,_,_,_,_⟩) rfl (.tmp 23) (.tmp 24) Tryz.underlying34 e_3 rfl (by decide) rfl HOWN.out rfl HG.out rfl hvl h1v (by unfold maxLen;omega) (by omega) hbase ?_;intro vB wB HO2 HG2 HN2)
   go_ret;exact⟨_,rfl,HO2.out,HG2.out,HN2.out⟩
  have hce2:¬(c=i):=by omega
  go_enter Tryz.func54,Tryz.ntmps54;go_wp2_with (at_builtin;refine a_x (o:=⟨some 25,_,_,_,_,_⟩) rfl (.tmp 23) (.tmp 24) Tryz.underlying34 e_3 rfl (by decide) rfl HOWN.out rfl HG.out rfl hvl h1v (by unfold maxLen;omega) (by omega) hbase ?_;intro vB wB HO2 HG2 HN2)
  go_ret;exact⟨_,rfl,HO2.out,HG2.out,HN2.out⟩
 have hlt:i<n:=by omega
 obtain⟨⟨_,hrow⟩,_⟩:=ho;rcases hrow with⟨_,h0⟩|⟨b,cap,cur,e1,hb,hh,hnc,hcm,hcs,htk⟩
 ·omega
 injection e1 with e1 _ e3;subst e1 e3;obtain⟨i1,hi1⟩:∃i1,i+1=i1:=⟨_,rfl⟩;obtain⟨n1,hn1⟩:∃n1,n+1=n1:=⟨_,rfl⟩;have ei1:(i:Int)+1=(i1:Int):=by omega
 have en1:(n:Int)+1=(n1:Int):=by omega
 have wi1:IntKind.i64.wrap (i1:Int)=(i1:Int):=IntWalk.i64_in _ (by omega);have wn1:IntKind.i64.wrap (n1:Int)=(n1:Int):=IntWalk.i64_in _ (by omega);have hgb:b≠g:=fun e=>hne (by rw[e];rfl);have hbl:b<w.heap.size:=Blk.lt (vs:=cur.toList) (t:=33) (by simpa[Blk]using hh);have HB:Hid (Blk w b 33 cur.toList):=by show w.heap[b]?=_;simpa using hh
 have hsz:(Tryz.prog.info? 33).map (·.size)=some 6:=by kernel_rfl
 unfold maxLen at hcm;have hz2:¬((i:Int)=(n:Int)):=by omega
 have hik:i*6≤n*6:=Nat.mul_le_mul_right _ hi;by_cases hroom:n1≤c
 ·-- there is room: in place
  have hrm:¬((c:Int)<(n1:Int)):=by omega
  have hb2:¬(c=i1):=by omega
  have hb4:¬(c=i):=by omega
  have hb5:n1≤c:=hroom;have hb6:i1≤n1:=by omega
  have hb7:i≤n1:=by omega
  have hb8:i≤n:=by omega
  have HCL:Hid (cur.toList.length=c*6):=by show _=_;simpa using hcs
  have HFIN:=Lib.hid (fun d=>g_v (k:=6) (d:=d) hb HB.out HCL.out (by unfold maxLen;omega) htk hxl hvl hi (by omega));obtain⟨c1,hc1⟩:∃c1,splice cur.toList ((i+1)*6) (xs.drop (i*6))=c1:=⟨_,rfl⟩
  have HFI2:Hid (∀ d,j_q w base 33 6 (.slice (some ⟨b,0,none⟩) n c) (n+1) (putIn xs i 6 vs) (.returned (.slice (some ⟨b,0,none⟩) n1 c)) (((w.drewN d).setRow b c1.toArray).setRow b (splice c1 (i*6) vs).toArray)):=by
   show ∀d,_;intro d;have:=HFIN.out d;rw[hc1,hn1]at this;rw[hn1];exact this
  have hcl1:c1.length=c*6:=by
   rw[← hc1,length_splice _ _ _ (by rw[List.length_drop,hxl,HCL.out];have h5:(n+1)*6≤c*6:=Nat.mul_le_mul_right _ (by omega);omega),HCL.out]
  have hcell:∀j v,xs[j]?=some v→w.cell? ⟨b,j,none⟩=some v:=fun j v hj=>by
   refine HB.out.cell ?_;rw[← htk,List.getElem?_take]at hj;split at hj
   ·exact hj
   ·cases hj
  have hb1:Blk (w.setRow b c1.toArray) b 33 c1:=setRow_heap _ b _ _ 33 _ HB.out
  have hcp1:∀(W:World),W.heap=w.heap→∀ty dc sc,(Builtin.copy_ #[34,34] ty #[.slice (some ⟨b,i1*6,none⟩) (n1-i1) dc,.slice (some ⟨b,i*6,none⟩) (n1-i) sc]).run Tryz.prog W=.ok (goInt ((n-i:Nat):Int)) (W.setRow b c1.toArray):=fun W hW ty dc sc=>by
   have hbW:Blk W b 33 cur.toList:=by show W.heap[b]?=_;rw[hW];exact HB.out
   have hcW:∀p,W.cell? p=w.cell? p:=fun p=>by simp only[World.cell?,hW]
   rw[← hc1,hi1];have hmin:Nat.min (n1-i) (n1-i1)=n-i:=by rw[show n1-i1=n-i by omega];exact Nat.min_eq_right (by omega)
   have hlen:(xs.drop (i*6)).length=(n-i)*6:=by rw[List.length_drop,hxl,Nat.sub_mul]
   have hfit:i1*6+(xs.drop (i*6)).length≤cur.toList.length:=by
    rw[List.length_drop,hxl,HCL.out,←hi1];have h5:(n+1)*6≤c*6:=Nat.mul_le_mul_right _ (by omega);omega
   exact a_G (k:=6) (q:=n-i) (cs:=xs.drop (i*6)) Tryz.underlying34 hsz (w:=W) (t:=33) hbW hmin (fun j v hj=>by rw[b_n,hcW];exact hcell _ v (by rwa[List.getElem?_drop]at hj)) hlen hfit (fun u hu=>h1 u (List.mem_of_mem_drop hu))
  have hcp2:∀(W:World),W.heap=(w.setRow b c1.toArray).heap→∀ty dc,(Builtin.copy_ #[34,34] ty #[.slice (some ⟨b,i*6,none⟩) (n1-i) dc,.slice (some ⟨g,0,none⟩) 1 1]).run Tryz.prog W=.ok (goInt ((1:Nat):Int)) (W.setRow b (splice c1 (i*6) vs).toArray):=fun W hW ty dc=>
   a_G (k:=6) (q:=1) (cs:=vs) Tryz.underlying34 hsz (w:=W) (t:=33) (by show W.heap[b]?=_;rw[hW];exact hb1) (by simp only[Nat.min_def];split<;>omega) (fun j v hj=>by
    have hgg:Blk W g 33 vs:=by show W.heap[g]?=_;rw[hW,setRow_other _ _ _ _ (Ne.symm hgb)];exact HG.out
    rw[b_n,Nat.zero_add];exact hgg.cell hj) (by omega) (by rw[hvl,hcl1];have h5:(i+1)*6≤c*6:=Nat.mul_le_mul_right _ (by omega);omega) h1v
  have hov:∀lb cb,(callFunc 102 #[.slice (some ⟨g,0,none⟩) 1 1,.slice (some ⟨b,i1*6,none⟩) lb cb]).run Tryz.prog w=.ok (.value (.bool false)) w:=fun lb cb=>by
   rw[run_callFunc_extern Tryz.func102 (by kernel_rfl) (by kernel_rfl) (by kernel_rfl) (e:=Extern.SlicesOverlaps.overlaps #[34,34] #[4]) (by kernel_rfl),Lib.run_overlaps_apart w 34 4 33 Tryz.underlying34 6 (fun w=>by
                                                                                                                                                          obtain⟨i,hi,_,hz,_⟩:=info_parts e_3;simp[sizeOf,typeInfo,hi,hz]) ⟨g,0,none⟩ ⟨b,i1*6,none⟩ 1 1 lb cb (Ne.symm hgb) 33 33 6 (c*6) (by have:=HG.out;unfold Blk at this;simp[World.shape?,this,hvl]) (by have:=HB.out;unfold Blk at this;simp[World.shape?,this,hcs]) (by omega) (HG.out.free _) (HG.out.free _)]
   rfl
  have mixed:Tryz.prog.follows .mixedOrders=true:=by kernel_rfl
  clear hg hsrc hb1 hcell HFIN hc1 hh htk hcs HB hxl;go_enter Tryz.func54,Tryz.ntmps54;go_wp2_with (simp only[hov])
  go_region_law (refine b_3 rfl _ _ rfl (v:=.slice (some ⟨b,i1*6,none⟩) (n1-i1) (c-i1)) (u:=.slice (some ⟨b,i*6,none⟩) (n1-i) (c-i)) (by simp[Act.eval,Act.put]) (by simp[Act.eval,Act.put]) (hcp1 w.drew rfl _ _ _) ?_)
  go_wp2_with (refine b_s (o:=⟨some 82,_,_,_,_,_⟩) rfl _ _ rfl rfl rfl (hcp2 (w.drew.setRow b c1.toArray) rfl _ _) ?_)
  go_ret;exact HFI2.out _
 ·-- no room: a new row
  have hce:c=n:=by omega
  subst hce;have hrm:(c:Int)<(n1:Int):=by omega
  obtain⟨d1,hd1⟩:∃d1,n1-i=d1:=⟨_,rfl⟩;have ed1:(n1:Int)-(i:Int)=(d1:Int):=by omega
  have wd1:IntKind.i64.wrap (d1:Int)=(d1:Int):=IntWalk.i64_in _ (by omega);obtain⟨i0,hi0,hz0,hzs,hzb⟩:=info_parts e_3
  have hcell:∀j v,xs[j]?=some v→w.cell? ⟨b,j,none⟩=some v:=fun j v hj=>by
   refine HB.out.cell ?_;rw[← htk,List.getElem?_take]at hj;split at hj
   ·exact hj
   ·cases hj
  have hold:(Builtin.firstCells i0.size i (.slice (some ⟨b,0,none⟩) i c)).run Tryz.prog w.drew=.ok (xs.take (i*6)).toArray w.drew:=by
   rw[hzs]
   exact run_firstCells_some w.drew 6 i ⟨b,0,none⟩ i c (xs.take (i*6)) (by rw[List.length_take];omega) (fun j v hj=>by
    rw[b_n,Nat.zero_add];rw[List.getElem?_take]at hj;split at hj
    ·exact hcell j v hj
    ·cases hj)
  obtain⟨G,hG⟩:∃G,grownCap w n1 c 33=G:=⟨_,rfl⟩;have hGn:n1≤G:=by rw[← hG];exact grownCap_ge w _ _ _
  have hGm:G≤maxLen:=by rw[← hG];exact grownCap_le_maxLen w n1 c 33 (by unfold maxLen;omega)
  obtain⟨zs,hzq⟩:∃zs:List Value,(Builtin.zeroCells (Value.cells (.agg #[.int .i64 0,.int .i64 0,.int .i64 0,.int .i64 0,.int .i64 0,.bool false])) d1++Builtin.zeroCells (Value.cells (.agg #[.int .i64 0,.int .i64 0,.int .i64 0,.int .i64 0,.int .i64 0,.bool false])) (G-n1)).toList=zs:=⟨_,rfl⟩
  have hzl:i*6+zs.length=G*6:=by
   rw[← hzq];simp only[Array.toList_append,List.length_append,Array.length_toList,size_zeroCells];have:(Value.cells (.agg #[.int .i64 0,.int .i64 0,.int .i64 0,.int .i64 0,.int .i64 0,.bool false])).size=6:=rfl;rw[this];omega
  have hrz:∀ty,(Builtin.append_ #[34,3] ty #[.slice (some ⟨b,0,none⟩) i c,.int .i64 (d1:Int)]).run Tryz.prog w=.ok (.slice (some ⟨w.heap.size,0,none⟩) n1 G) (w.drew.alloc (.cells (xs.take (i*6)++zs).toArray 33)):=fun ty=>by
   have h:=Lib.run_append_grow_zeros w 34 3 ty 33 i0 _ .i64 .i64 Tryz.underlying34 Tryz.underlying3 hi0 hz0 (some ⟨b,0,none⟩) i c (xs.take (i*6)) hold d1 (by omega) (by omega) (by omega) (by omega) (by rw[hzb];omega) (by rw[hzb,show i+d1=n1 by omega];exact growslice_fits (by omega) (by omega));rw[show i+d1=n1 by omega,hG]at h;rw[h,←hzq];congr 3
   simp
  have HFIN:=Lib.hid (g_w (w:=w) (base:=base) (n:=c) (i:=i) (k:=6) (G:=G) (e:=33) (v:=.slice (some ⟨b,0,none⟩) c c) (xs:=xs) (vs:=vs) (zs:=zs) hbase hxl hvl hi (by omega) hGm hzl);obtain⟨r0,hr0⟩:∃r,xs.take (i*6)++zs=r:=⟨_,rfl⟩;have hr0l:r0.length=G*6:=by rw[← hr0,List.length_append,List.length_take];omega
  obtain⟨c1,hc1⟩:∃c1,splice r0 (i*6) vs=c1:=⟨_,rfl⟩;obtain⟨c2,hc2⟩:∃c2,splice c1 (i1*6) (xs.drop (i*6))=c2:=⟨_,rfl⟩;rw[hr0]at hrz HFIN;rw[hc1,hi1,hc2,hn1]at HFIN;rw[hn1];obtain⟨W1,hW1⟩:∃W1,w.drew.alloc (.cells r0.toArray 33)=W1:=⟨_,rfl⟩;have hbW:Blk W1 w.heap.size 33 r0:=by rw[← hW1];exact Blk.new w.drew _ _
  have hgW:Blk W1 g 33 vs:=by rw[← hW1];exact(Below.heap_alloc w.drew _ g hgl).trans HG.out
  have hoW:Blk W1 b 33 cur.toList:=by rw[← hW1];exact(Below.heap_alloc w.drew _ b hbl).trans HB.out
  rw[hW1]at hrz HFIN;have hc1l:c1.length=G*6:=by rw[← hc1,length_splice _ _ _ (by rw[hr0l,hvl];omega),hr0l]
  have hb1:Blk (W1.setRow w.heap.size c1.toArray) w.heap.size 33 c1:=setRow_heap _ w.heap.size _ _ 33 _ hbW
  have hcpA:∀ty dc,(Builtin.copy_ #[34,34] ty #[.slice (some ⟨w.heap.size,i*6,none⟩) d1 dc,.slice (some ⟨g,0,none⟩) 1 1]).run Tryz.prog W1=.ok (goInt ((1:Nat):Int)) (W1.setRow w.heap.size c1.toArray):=fun ty dc=>by
   rw[← hc1];have hmin:Nat.min 1 d1=1:=Nat.min_eq_left (by omega);exact a_G (k:=6) (q:=1) (cs:=vs) Tryz.underlying34 hsz (w:=W1) (t:=33) hbW hmin (fun j v hj=>by rw[b_n,Nat.zero_add];exact hgW.cell hj) (by omega) (by rw[hvl,hr0l];omega) h1v
  have hcpB:∀(W:World),W.heap=(W1.setRow w.heap.size c1.toArray).heap→∀ty dc sc,(Builtin.copy_ #[34,34] ty #[.slice (some ⟨w.heap.size,i1*6,none⟩) (n1-i1) dc,.slice (some ⟨b,i*6,none⟩) (c-i) sc]).run Tryz.prog W=.ok (goInt ((c-i:Nat):Int)) (W.setRow w.heap.size c2.toArray):=fun W hW ty dc sc=>by
   rw[← hc2];have hbW2:Blk W w.heap.size 33 c1:=by show W.heap[w.heap.size]?=_;rw[hW];exact hb1
   have hoW2:Blk W b 33 cur.toList:=by show W.heap[b]?=_;rw[hW,setRow_other _ _ _ _ (by omega)];exact hoW
   have hmin:Nat.min (c-i) (n1-i1)=c-i:=Nat.min_eq_left (by omega);have hlen:(xs.drop (i*6)).length=(c-i)*6:=by rw[List.length_drop,hxl,Nat.sub_mul]
   exact a_G (k:=6) (q:=c-i) (cs:=xs.drop (i*6)) Tryz.underlying34 hsz (w:=W) (t:=33) hbW2 hmin (fun j v hj=>by
    rw[b_n];refine hoW2.cell ?_;rw[List.getElem?_drop,←htk,List.getElem?_take]at hj;split at hj
    ·exact hj
    ·cases hj) hlen (by rw[hlen,hc1l];omega) (fun u hu=>h1 u (List.mem_of_mem_drop hu))
  have hGi:¬(G=i):=by omega
  have hGi1:¬(G=i1):=by omega
  have hci:¬(c=i):=by omega
  have hcc:i≤c:=by omega
  have hnn:i≤n1:=by omega
  have hn2:i1≤n1:=by omega
  have hn3:n1≤G:=by omega
  unfold maxLen at hGm;have mixed:Tryz.prog.follows .mixedOrders=true:=by kernel_rfl
  clear hg hsrc hcell hr0 hr0l hc1 hc2 hbW hgW hoW hc1l hb1 hold hG hzq hzl hh htk hcs HB hxl hi0 hz0 hzs hzb hroom hlt;have HW1:=Lib.hid hW1;clear hW1;go_enter Tryz.func54,Tryz.ntmps54;go_wp2_with (first|(at_builtin;refine Lib.wpList_append_run _ rfl _ _ _ _ rfl _ _ rfl rfl _ _ (hrz _) ?_)|(refine b_s (o:=⟨some 45,_,_,_,_,_⟩) rfl _ _ rfl rfl rfl (hcpA _ _) ?_))
  go_region_law (refine b_3 rfl _ _ rfl (v:=.slice (some ⟨w.heap.size,i1*6,none⟩) (n1-i1) (G-i1)) (u:=.slice (some ⟨b,i*6,none⟩) (c-i) (c-i)) (by simp[Act.eval,Act.put]) (by simp[Act.eval,Act.put]) (hcpB (W1.setRow w.heap.size c1.toArray).drew rfl _ _ _) ?_)
  go_wp2
  go_ret;exact HFIN.out
theorem p_F(base n c i:Nat)(A:Option Addr)(xs vs:List Value)(g:Nat)(w:World)(ho:OwnK w base 31 10 (.slice A n c) n xs)(hbase:base≤w.heap.size)(h1:∀u∈xs,u.oneCell'=true)(hg:Blk w g 31 vs)(hvl:vs.length=10)(h1v:∀u∈vs,u.oneCell'=true)(hne:(Value.slice A n c).ownBlock≠some g)(hi:i≤n)(hn:n≤64):
 Calls Tryz.prog 93 #[.slice A n c,.int .i64 (i:Int),.slice (some ⟨g,0,none⟩) 1 1] w (j_q w base 31 10 (.slice A n c) (n+1) (putIn xs i 10 vs)):=by
 have hxl:xs.length=n*10:=ho.len;have HOWN:=Lib.hid ho;have hsrc:∀j v,vs[j]?=some v→w.cell? ((Addr.mk g 0 none).add j)=some v:=fun j v hv=>by rw[b_n,Nat.zero_add];exact hg.cell hv
 have hgl:=hg.lt;have HG:=Lib.hid hg;by_cases hin:i=n
 ·subst hin
  have HCE:Hid (putIn xs i 10 vs=xs++vs):=by
   show _=_;unfold putIn;rw[List.take_of_length_le (by omega),List.drop_of_length_le (by omega),List.append_nil]
  rw[HCE.out];have hcnil:¬((1:Int)=0):=by omega
  have hcc:i≤c:=by obtain⟨_,_,e,h,_⟩:=ho.read;injection e with _ _ e;rw[e];exact h
  clear ho hg hsrc;rcases Nat.eq_or_lt_of_le hcc with hce|hce
  ·subst hce
   go_enter Tryz.func93,Tryz.ntmps93;go_wp2_with (at_builtin;refine a_x (o:=⟨some 25,_,_,_,_,_⟩) rfl (.tmp 23) (.tmp 24) Tryz.underlying40 b_R rfl (by decide) rfl HOWN.out rfl HG.out rfl hvl h1v (by unfold maxLen;omega) (by omega) hbase ?_;intro vB wB HO2 HG2 HN2)
   go_ret;exact⟨_,rfl,HO2.out,HG2.out,HN2.out⟩
  have hce2:¬(c=i):=by omega
  go_enter Tryz.func93,Tryz.ntmps93;go_wp2_with (at_builtin;refine a_x (o:=⟨some 25,_,_,_,_,_⟩) rfl (.tmp 23) (.tmp 24) Tryz.underlying40 b_R rfl (by decide) rfl HOWN.out rfl HG.out rfl hvl h1v (by unfold maxLen;omega) (by omega) hbase ?_;intro vB wB HO2 HG2 HN2)
  go_ret;exact⟨_,rfl,HO2.out,HG2.out,HN2.out⟩
 have hlt:i<n:=by omega
 obtain⟨⟨_,hrow⟩,_⟩:=ho;rcases hrow with⟨_,h0⟩|⟨b,cap,cur,e1,hb,hh,hnc,hcm,hcs,htk⟩
 ·omega
 injection e1 with e1 _ e3;subst e1 e3;obtain⟨i1,hi1⟩:∃i1,i+1=i1:=⟨_,rfl⟩;obtain⟨n1,hn1⟩:∃n1,n+1=n1:=⟨_,rfl⟩;have ei1:(i:Int)+1=(i1:Int):=by omega
 have en1:(n:Int)+1=(n1:Int):=by omega
 have wi1:IntKind.i64.wrap (i1:Int)=(i1:Int):=IntWalk.i64_in _ (by omega);have wn1:IntKind.i64.wrap (n1:Int)=(n1:Int):=IntWalk.i64_in _ (by omega);have hgb:b≠g:=fun e=>hne (by rw[e];rfl);have hbl:b<w.heap.size:=Blk.lt (vs:=cur.toList) (t:=31) (by simpa[Blk]using hh);have HB:Hid (Blk w b 31 cur.toList):=by show w.heap[b]?=_;simpa using hh
 have hsz:(Tryz.prog.info? 31).map (·.size)=some 10:=by kernel_rfl
 unfold maxLen at hcm;have hz2:¬((i:Int)=(n:Int)):=by omega
 have hik:i*10≤n*10:=Nat.mul_le_mul_right _ hi;by_cases hroom:n1≤c
 ·-- there is room: in place
  have hrm:¬((c:Int)<(n1:Int)):=by omega
  have hb2:¬(c=i1):=by omega
  have hb4:¬(c=i):=by omega
  have hb5:n1≤c:=hroom;have hb6:i1≤n1:=by omega
  have hb7:i≤n1:=by omega
  have hb8:i≤n:=by omega
  have HCL:Hid (cur.toList.length=c*10):=by show _=_;simpa using hcs
  have HFIN:=Lib.hid (fun d=>g_v (k:=10) (d:=d) hb HB.out HCL.out (by unfold maxLen;omega) htk hxl hvl hi (by omega));obtain⟨c1,hc1⟩:∃c1,splice cur.toList ((i+1)*10) (xs.drop (i*10))=c1:=⟨_,rfl⟩
  have HFI2:Hid (∀ d,j_q w base 31 10 (.slice (some ⟨b,0,none⟩) n c) (n+1) (putIn xs i 10 vs) (.returned (.slice (some ⟨b,0,none⟩) n1 c)) (((w.drewN d).setRow b c1.toArray).setRow b (splice c1 (i*10) vs).toArray)):=by
   show ∀d,_;intro d;have:=HFIN.out d;rw[hc1,hn1]at this;rw[hn1];exact this
  have hcl1:c1.length=c*10:=by
   rw[← hc1,length_splice _ _ _ (by rw[List.length_drop,hxl,HCL.out];have h5:(n+1)*10≤c*10:=Nat.mul_le_mul_right _ (by omega);omega),HCL.out]
  have hcell:∀j v,xs[j]?=some v→w.cell? ⟨b,j,none⟩=some v:=fun j v hj=>by
   refine HB.out.cell ?_;rw[← htk,List.getElem?_take]at hj;split at hj
   ·exact hj
   ·cases hj
  have hb1:Blk (w.setRow b c1.toArray) b 31 c1:=setRow_heap _ b _ _ 31 _ HB.out
  have hcp1:∀(W:World),W.heap=w.heap→∀ty dc sc,(Builtin.copy_ #[40,40] ty #[.slice (some ⟨b,i1*10,none⟩) (n1-i1) dc,.slice (some ⟨b,i*10,none⟩) (n1-i) sc]).run Tryz.prog W=.ok (goInt ((n-i:Nat):Int)) (W.setRow b c1.toArray):=fun W hW ty dc sc=>by
   have hbW:Blk W b 31 cur.toList:=by show W.heap[b]?=_;rw[hW];exact HB.out
   have hcW:∀p,W.cell? p=w.cell? p:=fun p=>by simp only[World.cell?,hW]
   rw[← hc1,hi1];have hmin:Nat.min (n1-i) (n1-i1)=n-i:=by rw[show n1-i1=n-i by omega];exact Nat.min_eq_right (by omega)
   have hlen:(xs.drop (i*10)).length=(n-i)*10:=by rw[List.length_drop,hxl,Nat.sub_mul]
   have hfit:i1*10+(xs.drop (i*10)).length≤cur.toList.length:=by
    rw[List.length_drop,hxl,HCL.out,←hi1];have h5:(n+1)*10≤c*10:=Nat.mul_le_mul_right _ (by omega);omega
   exact a_G (k:=10) (q:=n-i) (cs:=xs.drop (i*10)) Tryz.underlying40 hsz (w:=W) (t:=31) hbW hmin (fun j v hj=>by rw[b_n,hcW];exact hcell _ v (by rwa[List.getElem?_drop]at hj)) hlen hfit (fun u hu=>h1 u (List.mem_of_mem_drop hu))
  have hcp2:∀(W:World),W.heap=(w.setRow b c1.toArray).heap→∀ty dc,(Builtin.copy_ #[40,40] ty #[.slice (some ⟨b,i*10,none⟩) (n1-i) dc,.slice (some ⟨g,0,none⟩) 1 1]).run Tryz.prog W=.ok (goInt ((1:Nat):Int)) (W.setRow b (splice c1 (i*10) vs).toArray):=fun W hW ty dc=>
   a_G (k:=10) (q:=1) (cs:=vs) Tryz.underlying40 hsz (w:=W) (t:=31) (by show W.heap[b]?=_;rw[hW];exact hb1) (by simp only[Nat.min_def];split<;>omega) (fun j v hj=>by
    have hgg:Blk W g 31 vs:=by show W.heap[g]?=_;rw[hW,setRow_other _ _ _ _ (Ne.symm hgb)];exact HG.out
    rw[b_n,Nat.zero_add];exact hgg.cell hj) (by omega) (by rw[hvl,hcl1];have h5:(i+1)*10≤c*10:=Nat.mul_le_mul_right _ (by omega);omega) h1v
  have hov:∀lb cb,(callFunc 158 #[.slice (some ⟨g,0,none⟩) 1 1,.slice (some ⟨b,i1*10,none⟩) lb cb]).run Tryz.prog w=.ok (.value (.bool false)) w:=fun lb cb=>by
   rw[run_callFunc_extern Tryz.func158 (by kernel_rfl) (by kernel_rfl) (by kernel_rfl) (e:=Extern.SlicesOverlaps.overlaps #[40,40] #[4]) (by kernel_rfl),Lib.run_overlaps_apart w 40 4 31 Tryz.underlying40 10 (fun w=>by
                                                                                                                                                          obtain⟨i,hi,_,hz,_⟩:=info_parts b_R;simp[sizeOf,typeInfo,hi,hz]) ⟨g,0,none⟩ ⟨b,i1*10,none⟩ 1 1 lb cb (Ne.symm hgb) 31 31 10 (c*10) (by have:=HG.out;unfold Blk at this;simp[World.shape?,this,hvl]) (by have:=HB.out;unfold Blk at this;simp[World.shape?,this,hcs]) (by omega) (HG.out.free _) (HG.out.free _)]
   rfl
  have mixed:Tryz.prog.follows .mixedOrders=true:=by kernel_rfl
  clear hg hsrc hb1 hcell HFIN hc1 hh htk hcs HB hxl;go_enter Tryz.func93,Tryz.ntmps93;go_wp2_with (simp only[hov])
  go_region_law (refine b_3 rfl _ _ rfl (v:=.slice (some ⟨b,i1*10,none⟩) (n1-i1) (c-i1)) (u:=.slice (some ⟨b,i*10,none⟩) (n1-i) (c-i)) (by simp[Act.eval,Act.put]) (by simp[Act.eval,Act.put]) (hcp1 w.drew rfl _ _ _) ?_)
  go_wp2_with (refine b_s (o:=⟨some 82,_,_,_,_,_⟩) rfl _ _ rfl rfl rfl (hcp2 (w.drew.setRow b c1.toArray) rfl _ _) ?_)
  go_ret;exact HFI2.out _
 ·-- no room: a new row
  have hce:c=n:=by omega
  subst hce;have hrm:(c:Int)<(n1:Int):=by omega
  obtain⟨d1,hd1⟩:∃d1,n1-i=d1:=⟨_,rfl⟩;have ed1:(n1:Int)-(i:Int)=(d1:Int):=by omega
  have wd1:IntKind.i64.wrap (d1:Int)=(d1:Int):=IntWalk.i64_in _ (by omega);obtain⟨i0,hi0,hz0,hzs,hzb⟩:=info_parts b_R
  have hcell:∀j v,xs[j]?=some v→w.cell? ⟨b,j,none⟩=some v:=fun j v hj=>by
   refine HB.out.cell ?_;rw[← htk,List.getElem?_take]at hj;split at hj
   ·exact hj
   ·cases hj
  have hold:(Builtin.firstCells i0.size i (.slice (some ⟨b,0,none⟩) i c)).run Tryz.prog w.drew=.ok (xs.take (i*10)).toArray w.drew:=by
   rw[hzs]
   exact run_firstCells_some w.drew 10 i ⟨b,0,none⟩ i c (xs.take (i*10)) (by rw[List.length_take];omega) (fun j v hj=>by
    rw[b_n,Nat.zero_add];rw[List.getElem?_take]at hj;split at hj
    ·exact hcell j v hj
    ·cases hj)
  obtain⟨G,hG⟩:∃G,grownCap w n1 c 31=G:=⟨_,rfl⟩;have hGn:n1≤G:=by rw[← hG];exact grownCap_ge w _ _ _
  have hGm:G≤maxLen:=by rw[← hG];exact grownCap_le_maxLen w n1 c 31 (by unfold maxLen;omega)
  obtain⟨zs,hzq⟩:∃zs:List Value,(Builtin.zeroCells (Value.cells (.agg #[.int .i64 0,.int .i64 0,.int .i64 0,.int .i64 0,.int .i64 0,.int .i64 0,.int .i64 0,.int .i64 0,.int .i64 0,.int .i64 0])) d1++Builtin.zeroCells (Value.cells (.agg #[.int .i64 0,.int .i64 0,.int .i64 0,.int .i64 0,.int .i64 0,.int .i64 0,.int .i64 0,.int .i64 0,.int .i64 0,.int .i64 0])) (G-n1)).toList=zs:=⟨_,rfl⟩
  have hzl:i*10+zs.length=G*10:=by
   rw[← hzq];simp only[Array.toList_append,List.length_append,Array.length_toList,size_zeroCells];have:(Value.cells (.agg #[.int .i64 0,.int .i64 0,.int .i64 0,.int .i64 0,.int .i64 0,.int .i64 0,.int .i64 0,.int .i64 0,.int .i64 0,.int .i64 0])).size=10:=rfl;rw[this];omega
  have hrz:∀ty,(Builtin.append_ #[40,3] ty #[.slice (some ⟨b,0,none⟩) i c,.int .i64 (d1:Int)]).run Tryz.prog w=.ok (.slice (some ⟨w.heap.size,0,none⟩) n1 G) (w.drew.alloc (.cells (xs.take (i*10)++zs).toArray 31)):=fun ty=>by
   have h:=Lib.run_append_grow_zeros w 40 3 ty 31 i0 _ .i64 .i64 Tryz.underlying40 Tryz.underlying3 hi0 hz0 (some ⟨b,0,none⟩) i c (xs.take (i*10)) hold d1 (by omega) (by omega) (by omega) (by omega) (by rw[hzb];omega) (by rw[hzb,show i+d1=n1 by omega];exact growslice_fits (by omega) (by omega));rw[show i+d1=n1 by omega,hG]at h;rw[h,←hzq];congr 3
   simp
  have HFIN:=Lib.hid (g_w (w:=w) (base:=base) (n:=c) (i:=i) (k:=10) (G:=G) (e:=31) (v:=.slice (some ⟨b,0,none⟩) c c) (xs:=xs) (vs:=vs) (zs:=zs) hbase hxl hvl hi (by omega) hGm hzl);obtain⟨r0,hr0⟩:∃r,xs.take (i*10)++zs=r:=⟨_,rfl⟩;have hr0l:r0.length=G*10:=by rw[← hr0,List.length_append,List.length_take];omega
  obtain⟨c1,hc1⟩:∃c1,splice r0 (i*10) vs=c1:=⟨_,rfl⟩;obtain⟨c2,hc2⟩:∃c2,splice c1 (i1*10) (xs.drop (i*10))=c2:=⟨_,rfl⟩;rw[hr0]at hrz HFIN;rw[hc1,hi1,hc2,hn1]at HFIN;rw[hn1];obtain⟨W1,hW1⟩:∃W1,w.drew.alloc (.cells r0.toArray 31)=W1:=⟨_,rfl⟩;have hbW:Blk W1 w.heap.size 31 r0:=by rw[← hW1];exact Blk.new w.drew _ _
  have hgW:Blk W1 g 31 vs:=by rw[← hW1];exact(Below.heap_alloc w.drew _ g hgl).trans HG.out
  have hoW:Blk W1 b 31 cur.toList:=by rw[← hW1];exact(Below.heap_alloc w.drew _ b hbl).trans HB.out
  rw[hW1]at hrz HFIN;have hc1l:c1.length=G*10:=by rw[← hc1,length_splice _ _ _ (by rw[hr0l,hvl];omega),hr0l]
  have hb1:Blk (W1.setRow w.heap.size c1.toArray) w.heap.size 31 c1:=setRow_heap _ w.heap.size _ _ 31 _ hbW
  have hcpA:∀ty dc,(Builtin.copy_ #[40,40] ty #[.slice (some ⟨w.heap.size,i*10,none⟩) d1 dc,.slice (some ⟨g,0,none⟩) 1 1]).run Tryz.prog W1=.ok (goInt ((1:Nat):Int)) (W1.setRow w.heap.size c1.toArray):=fun ty dc=>by
   rw[← hc1];have hmin:Nat.min 1 d1=1:=Nat.min_eq_left (by omega);exact a_G (k:=10) (q:=1) (cs:=vs) Tryz.underlying40 hsz (w:=W1) (t:=31) hbW hmin (fun j v hj=>by rw[b_n,Nat.zero_add];exact hgW.cell hj) (by omega) (by rw[hvl,hr0l];omega) h1v
  have hcpB:∀(W:World),W.heap=(W1.setRow w.heap.size c1.toArray).heap→∀ty dc sc,(Builtin.copy_ #[40,40] ty #[.slice (some ⟨w.heap.size,i1*10,none⟩) (n1-i1) dc,.slice (some ⟨b,i*10,none⟩) (c-i) sc]).run Tryz.prog W=.ok (goInt ((c-i:Nat):Int)) (W.setRow w.heap.size c2.toArray):=fun W hW ty dc sc=>by
   rw[← hc2];have hbW2:Blk W w.heap.size 31 c1:=by show W.heap[w.heap.size]?=_;rw[hW];exact hb1
   have hoW2:Blk W b 31 cur.toList:=by show W.heap[b]?=_;rw[hW,setRow_other _ _ _ _ (by omega)];exact hoW
   have hmin:Nat.min (c-i) (n1-i1)=c-i:=Nat.min_eq_left (by omega);have hlen:(xs.drop (i*10)).length=(c-i)*10:=by rw[List.length_drop,hxl,Nat.sub_mul]
   exact a_G (k:=10) (q:=c-i) (cs:=xs.drop (i*10)) Tryz.underlying40 hsz (w:=W) (t:=31) hbW2 hmin (fun j v hj=>by
    rw[b_n];refine hoW2.cell ?_;rw[List.getElem?_drop,←htk,List.getElem?_take]at hj;split at hj
    ·exact hj
    ·cases hj) hlen (by rw[hlen,hc1l];omega) (fun u hu=>h1 u (List.mem_of_mem_drop hu))
  have hGi:¬(G=i):=by omega
  have hGi1:¬(G=i1):=by omega
  have hci:¬(c=i):=by omega
  have hcc:i≤c:=by omega
  have hnn:i≤n1:=by omega
  have hn2:i1≤n1:=by omega
  have hn3:n1≤G:=by omega
  unfold maxLen at hGm;have mixed:Tryz.prog.follows .mixedOrders=true:=by kernel_rfl
  clear hg hsrc hcell hr0 hr0l hc1 hc2 hbW hgW hoW hc1l hb1 hold hG hzq hzl hh htk hcs HB hxl hi0 hz0 hzs hzb hroom hlt;have HW1:=Lib.hid hW1;clear hW1;go_enter Tryz.func93,Tryz.ntmps93;go_wp2_with (first|(at_builtin;refine Lib.wpList_append_run _ rfl _ _ _ _ rfl _ _ rfl rfl _ _ (hrz _) ?_)|(refine b_s (o:=⟨some 45,_,_,_,_,_⟩) rfl _ _ rfl rfl rfl (hcpA _ _) ?_))
  go_region_law (refine b_3 rfl _ _ rfl (v:=.slice (some ⟨w.heap.size,i1*10,none⟩) (n1-i1) (G-i1)) (u:=.slice (some ⟨b,i*10,none⟩) (c-i) (c-i)) (by simp[Act.eval,Act.put]) (by simp[Act.eval,Act.put]) (hcpB (W1.setRow w.heap.size c1.toArray).drew rfl _ _ _) ?_)
  go_wp2
  go_ret;exact HFIN.out
end Pln
namespace Pln
open Plan
theorem g_U{P:Program}{w:World}{t t' ty e e':TypeId}{s x:Value}(ht:P.underlying t=some (.slice e))(ht':P.underlying t'=some (.slice e')):(Builtin.append_ #[t,t'] ty #[s,x]).run P w=(Builtin.append_ #[t,t] ty #[s,x]).run P w:=by
 unfold Builtin.append_;cases s with
 |slice a n c=>simp only[Sem.run_bind,run_underlying ht,run_underlying ht',Result.andThen_ok,List.getElem?_toArray,List.getElem?_cons_zero,List.getElem?_cons_succ]
 |_=>simp[run_underlying ht]
theorem c_1{w:World}{ops:Array Oper}{rest:List Oper}{o:Oper}{a:Act}{Q:Exit→Act→World→Prop}(hgd:o.guard=none)(s x:Operand){e e' t t':TypeId}{z:Value}{bytes k:Nat}
 (ht:Tryz.prog.underlying t=some (.slice e)) (ht':Tryz.prog.underlying t'=some (.slice e')) (hi0:(Tryz.prog.info? e).map (fun i=>(i.zero,i.size,i.bytes))=some (some z,k,bytes)) (hzc:z.cells.size=k) (hk:0<k)
 (ho:o.op=.call {callee:=.builtin .append,args:=#[s,x],argTypes:=#[t,t'] })
 {base:Nat} {v:Value} {n:Nat} {xs:List Value} (hown:OwnK w base e k v n xs) (hs:a.eval s=v) {g c:Nat} {u:TypeId} {ys:List Value} (hy:Blk w g u ys) (hx:a.eval x=.slice (some ⟨g,0,none⟩) 1 c) (hyl:ys.length=k) (h1:∀u∈ys,u.oneCell'=true)
 (hmx:n+1≤maxLen) (hb:(n+1)*bytes≤140737488355328) (hbase:base≤w.heap.size)
 (h:∀v' w',Hid (OwnK w' base e k v' (n+1) (xs++ys))→Hid (w.grownBy w' v.ownBlock)→Hid (v'.ownBlock=v.ownBlock∨v'.ownBlock=some w.heap.size)→wpList Tryz.prog ops Q rest (a.put o.dst v') w'):wpList Tryz.prog ops Q (o::rest) a w:=
 wpList_plain hgd fun _ hK=>by
  obtain⟨v',w',hrun,h2,h3,h4⟩:=e_p o.type ht hi0 hzc hk hown c (B:=g+1) (A:=some ⟨g,0,none⟩) (m:=1) (ys:=ys) (by
   refine⟨by omega,by unfold maxLen;omega,fun _=>⟨g,0,rfl,by omega,fun j q hq=>?_⟩⟩;rw[Nat.zero_add];exact hy.cell hq) h1 hmx hb hbase
  rw[← g_U ht ht']at hrun;unfold Oper.wp execOp;simp only[ho,resolve,invoke,builtin,Sem.run_bind,Sem.run_pure,Result.andThen_ok,List.map_toArray,List.map_cons,List.map_nil,hs,hx,hrun];exact hK _ _ (h v' w' h2 h3 h4)
theorem p_G(base n c i:Nat)(A:Option Addr)(xs vs:List Value)(g:Nat)(w:World)(ho:OwnK w base 37 3 (.slice A n c) n xs)(hbase:base≤w.heap.size)(h1:∀u∈xs,u.oneCell'=true)(hg:Blk w g 37 vs)(hvl:vs.length=3)(h1v:∀u∈vs,u.oneCell'=true)(hne:(Value.slice A n c).ownBlock≠some g)(hi:i≤n)(hn:n≤64):
 Calls Tryz.prog 55 #[.slice A n c,.int .i64 (i:Int),.slice (some ⟨g,0,none⟩) 1 1] w (j_q w base 37 3 (.slice A n c) (n+1) (putIn xs i 3 vs)):=by
 have hxl:xs.length=n*3:=ho.len;have HOWN:=Lib.hid ho;have hsrc:∀j v,vs[j]?=some v→w.cell? ((Addr.mk g 0 none).add j)=some v:=fun j v hv=>by rw[b_n,Nat.zero_add];exact hg.cell hv
 have hgl:=hg.lt;have HG:=Lib.hid hg;by_cases hin:i=n
 ·subst hin
  have HCE:Hid (putIn xs i 3 vs=xs++vs):=by
   show _=_;unfold putIn;rw[List.take_of_length_le (by omega),List.drop_of_length_le (by omega),List.append_nil]
  rw[HCE.out];have hcnil:¬((1:Int)=0):=by omega
  have hcc:i≤c:=by obtain⟨_,_,e,h,_⟩:=ho.read;injection e with _ _ e;rw[e];exact h
  clear ho hg hsrc;rcases Nat.eq_or_lt_of_le hcc with hce|hce
  ·subst hce
   go_enter Tryz.func55,Tryz.ntmps55;go_wp2_with (at_builtin;refine c_1 (o:=⟨some 25,_,_,_,_,_⟩) rfl (.tmp 23) (.tmp 24) Tryz.underlying39 Tryz.underlying38 g_e rfl (by decide) rfl HOWN.out rfl HG.out rfl hvl h1v (by unfold maxLen;omega) (by omega) hbase ?_;intro vB wB HO2 HG2 HN2)
   go_ret;exact⟨_,rfl,HO2.out,HG2.out,HN2.out⟩
  have hce2:¬(c=i):=by omega
  go_enter Tryz.func55,Tryz.ntmps55;go_wp2_with (at_builtin;refine c_1 (o:=⟨some 25,_,_,_,_,_⟩) rfl (.tmp 23) (.tmp 24) Tryz.underlying39 Tryz.underlying38 g_e rfl (by decide) rfl HOWN.out rfl HG.out rfl hvl h1v (by unfold maxLen;omega) (by omega) hbase ?_;intro vB wB HO2 HG2 HN2)
  go_ret;exact⟨_,rfl,HO2.out,HG2.out,HN2.out⟩
 have hlt:i<n:=by omega
 obtain⟨⟨_,hrow⟩,_⟩:=ho;rcases hrow with⟨_,h0⟩|⟨b,cap,cur,e1,hb,hh,hnc,hcm,hcs,htk⟩
 ·omega
 injection e1 with e1 _ e3;subst e1 e3;obtain⟨i1,hi1⟩:∃i1,i+1=i1:=⟨_,rfl⟩;obtain⟨n1,hn1⟩:∃n1,n+1=n1:=⟨_,rfl⟩;have ei1:(i:Int)+1=(i1:Int):=by omega
 have en1:(n:Int)+1=(n1:Int):=by omega
 have wi1:IntKind.i64.wrap (i1:Int)=(i1:Int):=IntWalk.i64_in _ (by omega);have wn1:IntKind.i64.wrap (n1:Int)=(n1:Int):=IntWalk.i64_in _ (by omega);have hgb:b≠g:=fun e=>hne (by rw[e];rfl);have hbl:b<w.heap.size:=Blk.lt (vs:=cur.toList) (t:=37) (by simpa[Blk]using hh);have HB:Hid (Blk w b 37 cur.toList):=by show w.heap[b]?=_;simpa using hh
 have hsz:(Tryz.prog.info? 37).map (·.size)=some 3:=by kernel_rfl
 unfold maxLen at hcm;have hz2:¬((i:Int)=(n:Int)):=by omega
 have hik:i*3≤n*3:=Nat.mul_le_mul_right _ hi;by_cases hroom:n1≤c
 ·-- there is room: in place
  have hrm:¬((c:Int)<(n1:Int)):=by omega
  have hb2:¬(c=i1):=by omega
  have hb4:¬(c=i):=by omega
  have hb5:n1≤c:=hroom;have hb6:i1≤n1:=by omega
  have hb7:i≤n1:=by omega
  have hb8:i≤n:=by omega
  have HCL:Hid (cur.toList.length=c*3):=by show _=_;simpa using hcs
  have HFIN:=Lib.hid (fun d=>g_v (k:=3) (d:=d) hb HB.out HCL.out (by unfold maxLen;omega) htk hxl hvl hi (by omega));obtain⟨c1,hc1⟩:∃c1,splice cur.toList ((i+1)*3) (xs.drop (i*3))=c1:=⟨_,rfl⟩
  have HFI2:Hid (∀ d,j_q w base 37 3 (.slice (some ⟨b,0,none⟩) n c) (n+1) (putIn xs i 3 vs) (.returned (.slice (some ⟨b,0,none⟩) n1 c)) (((w.drewN d).setRow b c1.toArray).setRow b (splice c1 (i*3) vs).toArray)):=by
   show ∀d,_;intro d;have:=HFIN.out d;rw[hc1,hn1]at this;rw[hn1];exact this
  have hcl1:c1.length=c*3:=by
   rw[← hc1,length_splice _ _ _ (by rw[List.length_drop,hxl,HCL.out];have h5:(n+1)*3≤c*3:=Nat.mul_le_mul_right _ (by omega);omega),HCL.out]
  have hcell:∀j v,xs[j]?=some v→w.cell? ⟨b,j,none⟩=some v:=fun j v hj=>by
   refine HB.out.cell ?_;rw[← htk,List.getElem?_take]at hj;split at hj
   ·exact hj
   ·cases hj
  have hb1:Blk (w.setRow b c1.toArray) b 37 c1:=setRow_heap _ b _ _ 37 _ HB.out
  have hcp1:∀(W:World),W.heap=w.heap→∀ty dc sc,(Builtin.copy_ #[39,39] ty #[.slice (some ⟨b,i1*3,none⟩) (n1-i1) dc,.slice (some ⟨b,i*3,none⟩) (n1-i) sc]).run Tryz.prog W=.ok (goInt ((n-i:Nat):Int)) (W.setRow b c1.toArray):=fun W hW ty dc sc=>by
   have hbW:Blk W b 37 cur.toList:=by show W.heap[b]?=_;rw[hW];exact HB.out
   have hcW:∀p,W.cell? p=w.cell? p:=fun p=>by simp only[World.cell?,hW]
   rw[← hc1,hi1];have hmin:Nat.min (n1-i) (n1-i1)=n-i:=by rw[show n1-i1=n-i by omega];exact Nat.min_eq_right (by omega)
   have hlen:(xs.drop (i*3)).length=(n-i)*3:=by rw[List.length_drop,hxl,Nat.sub_mul]
   have hfit:i1*3+(xs.drop (i*3)).length≤cur.toList.length:=by
    rw[List.length_drop,hxl,HCL.out,←hi1];have h5:(n+1)*3≤c*3:=Nat.mul_le_mul_right _ (by omega);omega
   exact a_G (k:=3) (q:=n-i) (cs:=xs.drop (i*3)) Tryz.underlying39 hsz (w:=W) (t:=37) hbW hmin (fun j v hj=>by rw[b_n,hcW];exact hcell _ v (by rwa[List.getElem?_drop]at hj)) hlen hfit (fun u hu=>h1 u (List.mem_of_mem_drop hu))
  have hcp2:∀(W:World),W.heap=(w.setRow b c1.toArray).heap→∀ty dc,(Builtin.copy_ #[39,38] ty #[.slice (some ⟨b,i*3,none⟩) (n1-i) dc,.slice (some ⟨g,0,none⟩) 1 1]).run Tryz.prog W=.ok (goInt ((1:Nat):Int)) (W.setRow b (splice c1 (i*3) vs).toArray):=fun W hW ty dc=>
   a_G (k:=3) (q:=1) (cs:=vs) Tryz.underlying39 hsz (w:=W) (t:=37) (by show W.heap[b]?=_;rw[hW];exact hb1) (by simp only[Nat.min_def];split<;>omega) (fun j v hj=>by
    have hgg:Blk W g 37 vs:=by show W.heap[g]?=_;rw[hW,setRow_other _ _ _ _ (Ne.symm hgb)];exact HG.out
    rw[b_n,Nat.zero_add];exact hgg.cell hj) (by omega) (by rw[hvl,hcl1];have h5:(i+1)*3≤c*3:=Nat.mul_le_mul_right _ (by omega);omega) h1v
  have hov:∀lb cb,(callFunc 104 #[.slice (some ⟨g,0,none⟩) 1 1,.slice (some ⟨b,i1*3,none⟩) lb cb]).run Tryz.prog w=.ok (.value (.bool false)) w:=fun lb cb=>by
   rw[run_callFunc_extern Tryz.func104 (by kernel_rfl) (by kernel_rfl) (by kernel_rfl) (e:=Extern.SlicesOverlaps.overlaps #[38,38] #[4]) (by kernel_rfl),Lib.run_overlaps_apart w 38 4 37 Tryz.underlying38 3 (fun w=>by
                                                                                                                                                          obtain⟨i,hi,_,hz,_⟩:=info_parts g_e;simp[sizeOf,typeInfo,hi,hz]) ⟨g,0,none⟩ ⟨b,i1*3,none⟩ 1 1 lb cb (Ne.symm hgb) 37 37 3 (c*3) (by have:=HG.out;unfold Blk at this;simp[World.shape?,this,hvl]) (by have:=HB.out;unfold Blk at this;simp[World.shape?,this,hcs]) (by omega) (HG.out.free _) (HG.out.free _)]
   rfl
  have mixed:Tryz.prog.follows .mixedOrders=true:=by kernel_rfl
  clear hg hsrc hb1 hcell HFIN hc1 hh htk hcs HB hxl;go_enter Tryz.func55,Tryz.ntmps55;go_wp2_with (simp only[hov])
  go_region_law (refine b_3 rfl _ _ rfl (v:=.slice (some ⟨b,i1*3,none⟩) (n1-i1) (c-i1)) (u:=.slice (some ⟨b,i*3,none⟩) (n1-i) (c-i)) (by simp[Act.eval,Act.put]) (by simp[Act.eval,Act.put]) (hcp1 w.drew rfl _ _ _) ?_)
  go_wp2_with (refine b_s (o:=⟨some 82,_,_,_,_,_⟩) rfl _ _ rfl rfl rfl (hcp2 (w.drew.setRow b c1.toArray) rfl _ _) ?_)
  go_ret;exact HFI2.out _
 ·-- no room: a new row
  have hce:c=n:=by omega
  subst hce;have hrm:(c:Int)<(n1:Int):=by omega
  obtain⟨d1,hd1⟩:∃d1,n1-i=d1:=⟨_,rfl⟩;have ed1:(n1:Int)-(i:Int)=(d1:Int):=by omega
  have wd1:IntKind.i64.wrap (d1:Int)=(d1:Int):=IntWalk.i64_in _ (by omega);obtain⟨i0,hi0,hz0,hzs,hzb⟩:=info_parts g_e
  have hcell:∀j v,xs[j]?=some v→w.cell? ⟨b,j,none⟩=some v:=fun j v hj=>by
   refine HB.out.cell ?_;rw[← htk,List.getElem?_take]at hj;split at hj
   ·exact hj
   ·cases hj
  have hold:(Builtin.firstCells i0.size i (.slice (some ⟨b,0,none⟩) i c)).run Tryz.prog w.drew=.ok (xs.take (i*3)).toArray w.drew:=by
   rw[hzs]
   exact run_firstCells_some w.drew 3 i ⟨b,0,none⟩ i c (xs.take (i*3)) (by rw[List.length_take];omega) (fun j v hj=>by
    rw[b_n,Nat.zero_add];rw[List.getElem?_take]at hj;split at hj
    ·exact hcell j v hj
    ·cases hj)
  obtain⟨G,hG⟩:∃G,grownCap w n1 c 37=G:=⟨_,rfl⟩;have hGn:n1≤G:=by rw[← hG];exact grownCap_ge w _ _ _
  have hGm:G≤maxLen:=by rw[← hG];exact grownCap_le_maxLen w n1 c 37 (by unfold maxLen;omega)
  obtain⟨zs,hzq⟩:∃zs:List Value,(Builtin.zeroCells (Value.cells (.agg #[.int .i64 0,.int .i64 0,.slice none 0 0])) d1++Builtin.zeroCells (Value.cells (.agg #[.int .i64 0,.int .i64 0,.slice none 0 0])) (G-n1)).toList=zs:=⟨_,rfl⟩
  have hzl:i*3+zs.length=G*3:=by
   rw[← hzq];simp only[Array.toList_append,List.length_append,Array.length_toList,size_zeroCells];have:(Value.cells (.agg #[.int .i64 0,.int .i64 0,.slice none 0 0])).size=3:=rfl;rw[this];omega
  have hrz:∀ty,(Builtin.append_ #[39,3] ty #[.slice (some ⟨b,0,none⟩) i c,.int .i64 (d1:Int)]).run Tryz.prog w=.ok (.slice (some ⟨w.heap.size,0,none⟩) n1 G) (w.drew.alloc (.cells (xs.take (i*3)++zs).toArray 37)):=fun ty=>by
   have h:=Lib.run_append_grow_zeros w 39 3 ty 37 i0 _ .i64 .i64 Tryz.underlying39 Tryz.underlying3 hi0 hz0 (some ⟨b,0,none⟩) i c (xs.take (i*3)) hold d1 (by omega) (by omega) (by omega) (by omega) (by rw[hzb];omega) (by rw[hzb,show i+d1=n1 by omega];exact growslice_fits (by omega) (by omega));rw[show i+d1=n1 by omega,hG]at h;rw[h,←hzq];congr 3
   simp
  have HFIN:=Lib.hid (g_w (w:=w) (base:=base) (n:=c) (i:=i) (k:=3) (G:=G) (e:=37) (v:=.slice (some ⟨b,0,none⟩) c c) (xs:=xs) (vs:=vs) (zs:=zs) hbase hxl hvl hi (by omega) hGm hzl);obtain⟨r0,hr0⟩:∃r,xs.take (i*3)++zs=r:=⟨_,rfl⟩;have hr0l:r0.length=G*3:=by rw[← hr0,List.length_append,List.length_take];omega
  obtain⟨c1,hc1⟩:∃c1,splice r0 (i*3) vs=c1:=⟨_,rfl⟩;obtain⟨c2,hc2⟩:∃c2,splice c1 (i1*3) (xs.drop (i*3))=c2:=⟨_,rfl⟩;rw[hr0]at hrz HFIN;rw[hc1,hi1,hc2,hn1]at HFIN;rw[hn1];obtain⟨W1,hW1⟩:∃W1,w.drew.alloc (.cells r0.toArray 37)=W1:=⟨_,rfl⟩;have hbW:Blk W1 w.heap.size 37 r0:=by rw[← hW1];exact Blk.new w.drew _ _
  have hgW:Blk W1 g 37 vs:=by rw[← hW1];exact(Below.heap_alloc w.drew _ g hgl).trans HG.out
  have hoW:Blk W1 b 37 cur.toList:=by rw[← hW1];exact(Below.heap_alloc w.drew _ b hbl).trans HB.out
  rw[hW1]at hrz HFIN;have hc1l:c1.length=G*3:=by rw[← hc1,length_splice _ _ _ (by rw[hr0l,hvl];omega),hr0l]
  have hb1:Blk (W1.setRow w.heap.size c1.toArray) w.heap.size 37 c1:=setRow_heap _ w.heap.size _ _ 37 _ hbW
  have hcpA:∀ty dc,(Builtin.copy_ #[39,38] ty #[.slice (some ⟨w.heap.size,i*3,none⟩) d1 dc,.slice (some ⟨g,0,none⟩) 1 1]).run Tryz.prog W1=.ok (goInt ((1:Nat):Int)) (W1.setRow w.heap.size c1.toArray):=fun ty dc=>by
   rw[← hc1];have hmin:Nat.min 1 d1=1:=Nat.min_eq_left (by omega);exact a_G (k:=3) (q:=1) (cs:=vs) Tryz.underlying39 hsz (w:=W1) (t:=37) hbW hmin (fun j v hj=>by rw[b_n,Nat.zero_add];exact hgW.cell hj) (by omega) (by rw[hvl,hr0l];omega) h1v
  have hcpB:∀(W:World),W.heap=(W1.setRow w.heap.size c1.toArray).heap→∀ty dc sc,(Builtin.copy_ #[39,39] ty #[.slice (some ⟨w.heap.size,i1*3,none⟩) (n1-i1) dc,.slice (some ⟨b,i*3,none⟩) (c-i) sc]).run Tryz.prog W=.ok (goInt ((c-i:Nat):Int)) (W.setRow w.heap.size c2.toArray):=fun W hW ty dc sc=>by
   rw[← hc2];have hbW2:Blk W w.heap.size 37 c1:=by show W.heap[w.heap.size]?=_;rw[hW];exact hb1
   have hoW2:Blk W b 37 cur.toList:=by show W.heap[b]?=_;rw[hW,setRow_other _ _ _ _ (by omega)];exact hoW
   have hmin:Nat.min (c-i) (n1-i1)=c-i:=Nat.min_eq_left (by omega);have hlen:(xs.drop (i*3)).length=(c-i)*3:=by rw[List.length_drop,hxl,Nat.sub_mul]
   exact a_G (k:=3) (q:=c-i) (cs:=xs.drop (i*3)) Tryz.underlying39 hsz (w:=W) (t:=37) hbW2 hmin (fun j v hj=>by
    rw[b_n];refine hoW2.cell ?_;rw[List.getElem?_drop,←htk,List.getElem?_take]at hj;split at hj
    ·exact hj
    ·cases hj) hlen (by rw[hlen,hc1l];omega) (fun u hu=>h1 u (List.mem_of_mem_drop hu))
  have hGi:¬(G=i):=by omega
  have hGi1:¬(G=i1):=by omega
  have hci:¬(c=i):=by omega
  have hcc:i≤c:=by omega
  have hnn:i≤n1:=by omega
  have hn2:i1≤n1:=by omega
  have hn3:n1≤G:=by omega
  unfold maxLen at hGm;have mixed:Tryz.prog.follows .mixedOrders=true:=by kernel_rfl
  clear hg hsrc hcell hr0 hr0l hc1 hc2 hbW hgW hoW hc1l hb1 hold hG hzq hzl hh htk hcs HB hxl hi0 hz0 hzs hzb hroom hlt;have HW1:=Lib.hid hW1;clear hW1;go_enter Tryz.func55,Tryz.ntmps55;go_wp2_with (first|(at_builtin;refine Lib.wpList_append_run _ rfl _ _ _ _ rfl _ _ rfl rfl _ _ (hrz _) ?_)|(refine b_s (o:=⟨some 45,_,_,_,_,_⟩) rfl _ _ rfl rfl rfl (hcpA _ _) ?_))
  go_region_law (refine b_3 rfl _ _ rfl (v:=.slice (some ⟨w.heap.size,i1*3,none⟩) (n1-i1) (G-i1)) (u:=.slice (some ⟨b,i*3,none⟩) (c-i) (c-i)) (by simp[Act.eval,Act.put]) (by simp[Act.eval,Act.put]) (hcpB (W1.setRow w.heap.size c1.toArray).drew rfl _ _ _) ?_)
  go_wp2
  go_ret;exact HFIN.out
end Pln
end Go.Proofs.YtkpnmpjnpcjohaaGreat
