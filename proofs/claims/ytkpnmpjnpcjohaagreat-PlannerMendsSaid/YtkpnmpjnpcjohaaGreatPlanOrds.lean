import Derived.Shelf.Sort.Plain
import Derived.Shelf.Slices.CompactI
import Derived.Shelf.Slices.Cells
import Derived.Shelf.Slices.In.SortNone
import Derived.Test.YtkpnmpjnpcjohaaGreatProg
import Derived.Test.YtkpnmpjnpcjohaaGreatPlanPSmalls
set_option linter.unusedVariables false
set_option maxHeartbeats 4000000
set_option maxRecDepth 100000
namespace Go.Proofs.YtkpnmpjnpcjohaaGreat
open RowKit
namespace Shelf
open Go.Proofs
open Go.Shelf
def k_M:Go.Shelf.Ren:=⟨fun|189=>82|125=>147|257=>146|128=>208|129=>209|294=>199|295=>200|296=>201|297=>202|298=>203|299=>204|216=>205|300=>206|301=>207|328=>236|329=>237|330=>238|331=>239|332=>240|215=>95|343=>255|n=>n,fun|28=>53|3=>3|46=>215|0=>0|51=>269|53=>271|4=>4|183=>262|182=>261|131=>84|5=>5|9=>9|218=>298|222=>302|228=>315|229=>316|n=>n,fun|n=>n⟩
theorem p_d:Go.Proofs.Lays.n189 Tryz.prog k_M:={
 mixed:=by kernel_rfl
 f125:=Tryz.func147.trans (congrArg some (by kernel_rfl))
 f128:=Tryz.func208.trans (congrArg some (by kernel_rfl))
 f129:=Tryz.func209.trans (congrArg some (by kernel_rfl))
 f189:=Tryz.func82.trans (congrArg some (by kernel_rfl))
 f215:=Tryz.func95.trans (congrArg some (by kernel_rfl))
 f216:=Tryz.func205.trans (congrArg some (by kernel_rfl))
 f257:=Tryz.func146.trans (congrArg some (by kernel_rfl))
 f294:=Tryz.func199.trans (congrArg some (by kernel_rfl))
 f295:=Tryz.func200.trans (congrArg some (by kernel_rfl))
 f296:=Tryz.func201.trans (congrArg some (by kernel_rfl))
 f297:=Tryz.func202.trans (congrArg some (by kernel_rfl))
 f298:=Tryz.func203.trans (congrArg some (by kernel_rfl))
 f299:=Tryz.func204.trans (congrArg some (by kernel_rfl))
 f300:=Tryz.func206.trans (congrArg some (by kernel_rfl))
 f301:=Tryz.func207.trans (congrArg some (by kernel_rfl))
 f328:=Tryz.func236.trans (congrArg some (by kernel_rfl))
 f329:=Tryz.func237.trans (congrArg some (by kernel_rfl))
 f330:=Tryz.func238.trans (congrArg some (by kernel_rfl))
 f331:=Tryz.func239.trans (congrArg some (by kernel_rfl))
 f332:=Tryz.func240.trans (congrArg some (by kernel_rfl))
 f343:=Tryz.func255.trans (congrArg some (by kernel_rfl))
 t0:=Tryz.underlying0
 a0:=Tryz.isAgg0
 z0:=Tryz.sizeOf0
 v0:=Tryz.zeroValue0
 t3:=Tryz.underlying3
 a3:=Tryz.isAgg3
 z3:=Tryz.sizeOf3
 v3:=Tryz.zeroValue3
 t4:=Tryz.underlying4
 a4:=Tryz.isAgg4
 z4:=Tryz.sizeOf4
 v4:=Tryz.zeroValue4
 t5:=Tryz.underlying5
 a5:=Tryz.isAgg5
 z5:=Tryz.sizeOf5
 v5:=Tryz.zeroValue5
 t9:=Tryz.underlying9
 a9:=Tryz.isAgg9
 z9:=Tryz.sizeOf9
 v9:=Tryz.zeroValue9
 t28:=Tryz.underlying53
 a28:=Tryz.isAgg53
 z28:=Tryz.sizeOf53
 v28:=Tryz.zeroValue53
 t46:=Tryz.underlying215
 a46:=Tryz.isAgg215
 z46:=Tryz.sizeOf215
 v46:=Tryz.zeroValue215
 t51:=Tryz.underlying269
 a51:=Tryz.isAgg269
 z51:=Tryz.sizeOf269
 v51:=Tryz.zeroValue269
 t53:=Tryz.underlying271
 a53:=Tryz.isAgg271
 z53:=Tryz.sizeOf271
 v53:=Tryz.zeroValue271
 t131:=Tryz.underlying84
 a131:=Tryz.isAgg84
 z131:=Tryz.sizeOf84
 v131:=Tryz.zeroValue84
 t182:=Tryz.underlying261
 a182:=Tryz.isAgg261
 z182:=Tryz.sizeOf261
 v182:=Tryz.zeroValue261
 t183:=Tryz.underlying262
 a183:=Tryz.isAgg262
 z183:=Tryz.sizeOf262
 v183:=Tryz.zeroValue262
 t218:=Tryz.underlying298
 a218:=Tryz.isAgg298
 z218:=Tryz.sizeOf298
 v218:=Tryz.zeroValue298
 t222:=Tryz.underlying302
 a222:=Tryz.isAgg302
 z222:=Tryz.sizeOf302
 v222:=Tryz.zeroValue302
 t228:=Tryz.underlying315
 a228:=Tryz.isAgg315
 z228:=Tryz.sizeOf315
 v228:=Tryz.zeroValue315
 t229:=Tryz.underlying316
 a229:=Tryz.isAgg316
 z229:=Tryz.sizeOf316
 v229:=Tryz.zeroValue316}
open Go.Sort in
theorem slices_Sort_int(blk off cap:Nat)(zs:List Int)(w:World)(hH:Holds (Value.int .i64) w blk off zs.toArray)(hblk:blk<w.heap.size)(hsz:zs.length<4611686018427387904):
 Calls Tryz.prog 82 #[.slice (some ⟨blk,off,none⟩) zs.length cap] w fun e w'=>
  e=.returned (.tuple #[])∧∃n os,w'=grow (putRow (Value.int .i64) (Sort.ahead w n) blk off (zs.mergeSort fun x y=>decide (x≤y)).toArray) os:=Any.slices_Sort_int p_d blk off cap zs w hH hblk hsz
def i_a:Go.Shelf.Ren:=⟨fun|20=>83|n=>n,fun|22=>53|3=>3|4=>4|0=>0|n=>n,fun|n=>n⟩
theorem i_7:Go.Proofs.Lays2.n20 Tryz.prog i_a:={
 mixed:=by kernel_rfl
 f20:=Tryz.func83.trans (congrArg some (by kernel_rfl))
 t0:=Tryz.underlying0
 a0:=Tryz.isAgg0
 z0:=Tryz.sizeOf0
 v0:=Tryz.zeroValue0
 t3:=Tryz.underlying3
 a3:=Tryz.isAgg3
 z3:=Tryz.sizeOf3
 v3:=Tryz.zeroValue3
 t4:=Tryz.underlying4
 a4:=Tryz.isAgg4
 z4:=Tryz.sizeOf4
 v4:=Tryz.zeroValue4
 t22:=Tryz.underlying53
 a22:=Tryz.isAgg53
 z22:=Tryz.sizeOf53
 v22:=Tryz.zeroValue53
 i3:=by kernel_rfl}
open Lib Go.Sort in
open Lib Go.Sort in
theorem slices_Compact_int(blk off cap:Nat)(zs:List Int)(w:World)(hH:Holds (Value.int .i64) w blk off zs.toArray)(hsz:zs.length≤9223372036854775807)(hcap:zs.length≤cap):
 Calls Tryz.prog 83 #[.slice (some ⟨blk,off,none⟩) zs.length cap] w fun e w'=>e=.returned (.slice (some ⟨blk,off,none⟩) (Lib.compact zs).length cap)∧∃q,w'=putRow (Value.int .i64) (Sort.ahead w q) blk off (Lib.compact zs++List.replicate (zs.length-(Lib.compact zs).length) 0).toArray:=Any.slices_Compact_int i_7 blk off cap zs w hH hsz hcap
open Lib Go.Sort in
theorem slices_Compact_int_empty(a:Option Addr)(cap:Nat)(w:World):
 Calls Tryz.prog 83 #[.slice a 0 cap] w fun e w'=>e=.returned (.slice a 0 cap)∧w'=w:=Any.slices_Compact_int_empty i_7 a cap w
open Lib Go.Sort in
open Go.Sort in
theorem slices_Sort_int_none(p:Option Addr)(cap:Nat)(w:World):
 Calls Tryz.prog 82 #[.slice p 0 cap] w fun e w'=>e=.returned (.tuple #[])∧w'=w:=Any.slices_Sort_int_none p_d p cap w
end Shelf
namespace Plan
open ChangeShapes WideShapes ChangeAt Mem FleetMath PlanMath Rec
theorem r_j:(Tryz.prog.info? 3).map (fun i=>(i.zero,i.size,i.bytes))=some (some (.int .i64 0),1,8):=by kernel_rfl
structure NS(w wr:World)(v:Value)(f:List Int):Prop where
 old:Below w.heap.size w wr
 own:OwnK wr w.heap.size 3 1 v f.length (b_l f)
theorem NS.nil(w:World):NS w w (.slice none 0 0) []:=⟨Below.refl _ _,OwnK.nil _ _ _ _⟩
theorem NS.keep{w wr w':World}{v:Value}{f:List Int}(h:NS w wr v f)(hb:Below wr.heap.size wr w'):NS w w' v f:=⟨h.old.trans (hb.mono h.old.size),h.own.keep hb (Nat.le_refl _)⟩
theorem NS.grow{w wr w':World}{v v':Value}{f:List Int}{x:Int}(h:NS w wr v f)(ho:OwnK w' w.heap.size 3 1 v' (f.length+1) (b_l f++[.int .i64 x]))(hg:wr.grownBy w' v.ownBlock):NS w w' v' (f++[x]):=by
 refine⟨h.own.below h.old hg h.old.size (Nat.le_refl _),?_⟩;rw[List.length_append];have e:b_l (f++[x])=b_l f++[.int .i64 x]:=by simp[b_l]
 rw[e];exact ho
theorem r_k(x:Int):∀u∈[Value.int .i64 x],u.oneCell'=true:=by
 intro u hu;simp only[List.mem_cons,List.not_mem_nil,or_false]at hu;rw[hu];rfl
theorem NS.put{w wr:World}{g c n m:Nat}{f ys:List Int}{os:Array Obj}(h:NS w wr (.slice (some ⟨g,0,none⟩) n c) f)(hn:f.length=n)(hy:ys.length=n):
 OwnK (Sort.grow (Sort.putRow (Value.int .i64) (Sort.ahead wr m) g 0 ys.toArray) os) w.heap.size 3 1 (.slice (some ⟨g,0,none⟩) n c) n (b_l ys)∧Below w.heap.size w (Sort.grow (Sort.putRow (Value.int .i64) (Sort.ahead wr m) g 0 ys.toArray) os):=by
 obtain⟨⟨h1,h2⟩,h3⟩:=h.own;subst hn;rcases h2 with⟨h2,_⟩|⟨b,cap,cur,e,hb,hh,hnc,hcm,hcs,htk⟩
 ·cases h2
 ·injection e with e1 _ e2
  injection e1 with e1;injection e1 with e1;subst e1 e2
  have hlt:g<wr.heap.size:=by
   rcases Nat.lt_or_ge g wr.heap.size with hlt|hge
   ·exact hlt
   ·rw[Array.getElem?_eq_none hge]at hh;cases hh
  have hput:(Sort.putRow (Value.int .i64) (Sort.ahead wr m) g 0 ys.toArray).heap[g]?=some (.cells (Sort.putCells (Value.int .i64) 0 ys.toArray cur) 3 (0,0)):=by
   unfold Sort.putRow Sort.mapBlock;simp only[Array.getElem?_modify,if_true,Sort.heap_ahead,hh,Option.map_some,Sort.onCells]
  have hsz:(Sort.putRow (Value.int .i64) (Sort.ahead wr m) g 0 ys.toArray).heap.size=wr.heap.size:=by simp
  refine⟨⟨⟨by rw[f_3,hy,Nat.mul_one],.inr ⟨g,c,Sort.putCells (Value.int .i64) 0 ys.toArray cur,rfl,hb,?_,hnc,hcm,by simp[Sort.putCells,hcs],?_⟩⟩,h3⟩,?_⟩
  ·rw[Sort.heap_grow_old _ _ (by rw[hsz];exact hlt)]
   exact hput
  ·apply List.ext_getElem?
   intro i;rw[List.getElem?_take];by_cases hi:i<f.length*1
   ·rw[if_pos hi]
    have hi':i<ys.length:=by omega
    have hic:i<cur.size:=by rw[hcs];omega
    simp only[Sort.putCells,Array.getElem?_toList,Array.getElem?_mapIdx,Array.getElem?_eq_getElem hic,Option.map_some,Nat.zero_le,true_and,Nat.zero_add,List.size_toArray,hi',if_true,Nat.sub_zero];simp[b_l,hi']
   ·rw[if_neg hi,List.getElem?_eq_none (by rw[f_3];omega)]
  ·have hs:=h.old.size
   refine h.old.trans ⟨rfl,rfl,rfl,by simp,fun k hk=>?_⟩;rw[Sort.heap_grow_old _ _ (by rw[hsz];omega)];unfold Sort.putRow Sort.mapBlock;simp only[Array.getElem?_modify,Sort.heap_ahead];rw[if_neg (by omega)]
theorem NS.holds{w wr:World}{g c n:Nat}{f:List Int}(h:NS w wr (.slice (some ⟨g,0,none⟩) n c) f):Sort.Holds (Value.int .i64) wr g 0 f.toArray∧g<wr.heap.size∧f.length≤c∧f.length=n:=by
 obtain⟨⟨h1,h2⟩,h3⟩:=h.own;rcases h2 with⟨h2,_⟩|⟨b,cap,cur,e,hb,hh,hnc,hcm,hcs,htk⟩
 ·cases h2
 ·injection e with e1 e3 e2
  injection e1 with e1;injection e1 with e1;subst e1 e2
  have hlt:g<wr.heap.size:=by
   rcases Nat.lt_or_ge g wr.heap.size with hlt|hge
   ·exact hlt
   ·rw[Array.getElem?_eq_none hge]at hh;cases hh
  refine⟨fun j hj=>?_,hlt,hnc,e3.symm⟩;have hj':j<f.length:=by simpa using hj
  have hc:wr.cell? ⟨g,0+j,none⟩=cur[0+j]? :=cell_of_row wr g (0+j) cur _ (0,0) hh;rw[hc,Nat.zero_add];refine⟨?_,?_⟩
  ·have h5:=congrArg (fun t:List Value=>t[j]?) htk
   simp only[List.getElem?_take,Nat.mul_one,hj',if_true,Array.getElem?_toList]at h5;rw[h5];simp[b_l,hj']
  ·have hB:Blk wr g 3 cur.toList:=by unfold Blk;rw[Array.toArray_toList];exact hh
   exact hB.free _
theorem OwnK.cut{w:World}{base g c n n':Nat}{e:TypeId}{vs:List Value}(h:OwnK w base e 1 (.slice (some ⟨g,0,none⟩) n c) n vs)(hn:n'≤n):OwnK w base e 1 (.slice (some ⟨g,0,none⟩) n' c) n' (vs.take n'):=by
 obtain⟨⟨h1,h2⟩,h3⟩:=h;rcases h2 with⟨h2,_⟩|⟨b,cap,cur,e,hb,hh,hnc,hcm,hcs,htk⟩
 ·cases h2
 ·injection e with e1 e3 e2
  injection e1 with e1;injection e1 with e1;subst e1 e2;refine⟨⟨by rw[List.length_take,h1];omega,.inr ⟨g,c,cur,rfl,hb,hh,by omega,hcm,hcs,?_⟩⟩,by omega⟩;rw[← htk,List.take_take];congr 1
  omega
theorem i_8{l:List Rte}{k:Nat}{x:Rte}(h:l[k]?=some x):allS (l.take (k+1))=allS (l.take k)++x.stops:=by
 unfold allS;rw[List.take_add_one,h,List.flatMap_append];simp
theorem p_e(l:List Rte)(k:Nat):(allS (l.take k)).length≤(allS l).length:=by
 have h:=congrArg (fun t=>(allS t).length) (List.take_append_drop k l);simp only[allS,List.flatMap_append,List.length_append]at h;unfold allS;omega
def c_x(l:List Rte)(k:Nat)(s:List Stp):List Int:=(allS (l.take k)++s).map (·.ord)
theorem m_7(l:List Rte)(k:Nat)(s:List Stp):(c_x l k s).length=(allS (l.take k)).length+s.length:=by simp[c_x]
theorem k_N(l:List Rte)(k:Nat)(s:List Stp)(x:Stp):c_x l k (s++[x])=c_x l k s++[x.ord]:=by simp[c_x]
theorem i_9{l:List Rte}{k:Nat}{x:Rte}(h:l[k]?=some x):c_x l k x.stops=c_x l (k+1) []:=by
 unfold c_x;rw[i_8 h,List.append_nil]
theorem e_a(A:Option Addr)(n c:Nat)(l:List RM)(w:World)(hl:Plns w w.heap.size A n l)(hfit:(allS (l.map (·.rt))).length*8≤140737488351232):
 Calls Tryz.prog 35 #[.slice A n c] w (fun e w'=>∃v,e=.returned v∧NS w w' v (a_p (l.map (·.rt)))):=by
 have hm:=Recs.le hl.rows;have HL:=Lib.hid hl.length;have HI:=Lib.hid hl;clear hl;go_enter Tryz.func35,Tryz.ntmps35;go_wp2
 go_loopw [3,10] (fun v i wr=>∃(k:Nat),k≤n∧i=.int .i64 k∧Hid (NS w wr v (c_x (l.map (·.rt)) k []))) (fun _ i _=>n-(intOf i).toNat)
 case atStart=>exact⟨0,Nat.zero_le _,rfl,Lib.hid (NS.nil w)⟩
 case round=>
  obtain⟨k,hk,rfl,HS⟩:=hrel;obtain⟨wo,rfl⟩:∃z,z=wr:=⟨_,rfl⟩;by_cases hlt:k<n
  ·obtain⟨b,off,x,rfl,hbb,hx,hdr,c0,c1,c2,hst,hxc⟩:=(HI.out.keep HS.out.old).at_ hlt
   have HX:=Lib.hid hx;have hxm:=Recs.le hst;have HXL:=Lib.hid hst.length;have HXR:Hid ((l.map (·.rt))[k]?=some x.rt):=Lib.hid (by rw[List.getElem?_map,hx];rfl);obtain⟨xa,hxa⟩:∃a,x.a=a:=⟨_,rfl⟩;rw[hxa]at c2;have HXA:=Lib.hid hxa;clear hxa
   have hroom:(allS ((l.map (·.rt)).take k)).length+x.n≤(allS (l.map (·.rt))).length:=by
    have h:=p_e (l.map (·.rt)) (k+1);rw[i_8 HXR.out,List.length_append,HXL.out]at h;exact h
   have HS1:Hid (NS w (wo.alloc (.cells #[.int .i64 x.rt.drv,.int .i64 x.rt.served,.slice xa x.n x.c] 37)) u3 (c_x (l.map (·.rt)) k (x.rt.stops.take 0))):=by
    rw[List.take_zero];exact HS.out.keep ((Below.refl _ _).alloc (Nat.le_refl _) _)
   clear hx hdr hst HS;go_wp2
   go_loopw [3,17] (fun v i wi=>∃(j:Nat),j≤x.n∧i=.int .i64 j∧Hid (NS w wi v (c_x (l.map (·.rt)) k (x.rt.stops.take j)))) (fun _ i _=>x.n-(intOf i).toNat)
   case atStart=>exact⟨0,Nat.zero_le _,rfl,HS1⟩
   case round=>
    clear HS1 c0 c1 c2;obtain⟨j,hj,rfl,HSI⟩:=hrel;by_cases hlt2:j<x.n
    ·obtain⟨_,_,y,hAe,_,hy,_,_,_,_,hst,_⟩:=(HI.out.keep HSI.out.old).at_ hlt
     clear hAe;obtain rfl:y=x:=by have h:=HX.out;rw[h]at hy;injection hy with h;exact h.symm
     rw[HXA.out]at hst;obtain⟨b2,off2,s,hxa,hbb2,hs,hdr2,s0,s1⟩:=Stps.at_ hst hlt2;subst hxa;have HT:Hid (y.rt.stops.take (j+1)=y.rt.stops.take j++[s]):=Lib.hid (by rw[List.take_add_one,hs];rfl);obtain⟨f,hf⟩:∃f,c_x (l.map (·.rt)) k (y.rt.stops.take j)=f:=⟨_,rfl⟩
     have hfl:f.length+1≤(allS (l.map (·.rt))).length:=by
      rw[← hf,m_7,List.length_take,HXL.out];omega
     have HF:Hid (c_x (l.map (·.rt)) k (y.rt.stops.take (j+1))=f++[s.ord]):=Lib.hid (by rw[HT.out,k_N,hf]);rw[hf]at HSI;have HS2:Hid (NS w ((wr.alloc (.cells #[.int .i64 s.ord,.bool s.drop] 48)).alloc (.cells #[.int .i64 s.ord] 3)) u3 f):=(HSI.out.keep ((Below.refl _ _).alloc (Nat.le_refl _) _)).keep ((Below.refl _ _).alloc (Nat.le_refl _) _)
     have HB2:Hid (Blk ((wr.alloc (.cells #[.int .i64 s.ord,.bool s.drop] 48)).alloc (.cells #[.int .i64 s.ord] 3)) (wr.heap.size+1) 3 [.int .i64 s.ord]):=by
      have h:=Blk.new (wr.alloc (.cells #[.int .i64 s.ord,.bool s.drop] 48)) 3 [.int .i64 s.ord];have e:(wr.alloc (.cells #[.int .i64 s.ord,.bool s.drop] 48)).heap.size=wr.heap.size+1:=by simp
      rw[e]at h;exact h
     clear hst hy hs hdr2 hbb2 HSI hf HT;go_wp2_with (at_builtin;refine a_x (o:=⟨some 25,_,_,_,_,_⟩) rfl (.tmp 21) (.tmp 24) Tryz.underlying53 r_j rfl (by decide) rfl HS2.out.own rfl HB2.out rfl rfl (r_k s.ord) (by unfold maxLen;omega) (by omega) HS2.out.old.size ?_;intro vB wB HO2 HG2 HN2;have HQ3:=Lib.hid (HS2.out.grow (x:=s.ord) HO2.out HG2.out);clear HO2 HG2 HN2;(try simp only[Act.put]))
     go_roundw
     case rel=>exact⟨j+1,by omega,by go_num,Lib.hid (by rw[HF.out];exact HQ3.out)⟩
     case measure=>simp[intOf];omega
    ·have hje:j=x.n:=by omega
     subst hje
     have HS3:Hid (NS w wr u3 (c_x (l.map (·.rt)) (k+1) [])):=by
      have h:=HSI.out;rw[List.take_of_length_le (by rw[HXL.out];exact Nat.le_refl _),i_9 HXR.out]at h;exact h
     clear HSI;go_wp2
     go_roundw
     case rel=>exact⟨k+1,by omega,by go_num,HS3⟩
     case measure=>simp[intOf];omega
  ·have hke:k=n:=by omega
   subst hke
   have HS1:Hid (NS w wo u3 ((allS (l.map (·.rt))).map (·.ord))):=by
    have h:=HS.out;unfold c_x at h;rw[List.append_nil,List.take_of_length_le (by rw[List.length_map,HL.out];exact Nat.le_refl _)]at h;exact h
   have hfl:((allS (l.map (·.rt))).map (·.ord)).length*8≤140737488351232:=by rw[List.length_map];exact hfit
   obtain⟨f,hf⟩:∃f,(allS (l.map (·.rt))).map (·.ord)=f:=⟨_,rfl⟩;have HF:Hid (a_p (l.map (·.rt))=Lib.compact (f.mergeSort fun x y=>decide (x≤y))):=Lib.hid (by unfold a_p;rw[hf]);rw[hf]at HS1 hfl;obtain⟨A9,c9,hv⟩:=HS1.out.own.slice;subst hv;clear HS hf;rcases Nat.eq_zero_or_pos f.length with h0|h0
   ·obtain rfl:f=[]:=List.eq_nil_of_length_eq_zero h0
    go_wp2_with fail
    refine(Shelf.slices_Sort_int_none _ _ _).mono ?_;rintro e w1 ⟨rfl,rfl⟩;go_wp2_with fail
    refine(Shelf.slices_Compact_int_empty _ _ _).mono ?_;rintro e w1 ⟨rfl,rfl⟩;go_wp2
    go_ret;refine⟨.slice A9 0 c9,rfl,?_⟩;have e0:Lib.compact (([]:List Int).mergeSort fun x y=>decide (x≤y))=[]:=by simp[Lib.compact,Lib.compactUpTo]
    rw[HF.out,e0];exact HS1.out
   ·obtain⟨g,hA⟩:∃g,A9=some ⟨g,0,none⟩:=by
     rcases HS1.out.own.blk with⟨_,h1⟩|⟨g,cap,cur,e,_⟩
     ·omega
     ·injection e with e;exact⟨g,e⟩
    subst hA;obtain⟨hh,hlg,hfc,_⟩:=HS1.out.holds;have HH:=Lib.hid hh;clear hh;go_wp2_with fail
    refine(Shelf.slices_Sort_int g 0 c9 f _ HH.out hlg (by omega)).mono ?_;rintro e w1 ⟨rfl,m,os,rfl⟩;obtain⟨ho1,hb1⟩:=HS1.out.put (m:=m) (os:=os) rfl (List.length_mergeSort f (le:=fun x y=>decide (x≤y)));obtain⟨w1,hw1⟩:∃u,Sort.grow (Sort.putRow (Value.int .i64) (Sort.ahead wo m) g 0 (f.mergeSort fun x y=>decide (x≤y)).toArray) os=u:=⟨_,rfl⟩;rw[hw1]at ho1 hb1 ⊢;have hl2:=List.length_mergeSort f (le:=fun x y=>decide (x≤y));obtain⟨f2,hf2⟩:∃f2,(f.mergeSort fun x y=>decide (x≤y))=f2:=⟨_,rfl⟩;rw[hf2]at ho1 hl2 HF;rw[← hl2]at ho1 hfl hfc ⊢;have HS2:Hid (NS w w1 (.slice (some ⟨g,0,none⟩) f2.length c9) f2):=⟨hb1,ho1⟩;obtain⟨hh2,hlg2,hfc2,_⟩:=HS2.out.holds;have HH2:=Lib.hid hh2;have hcl:=Lib.compact_length_le f2;have h63:f2.length≤9223372036854775807:=by omega
    clear hh2 hw1 hf2 ho1 hb1 hl2;go_wp2_with fail
    refine(Shelf.slices_Compact_int g 0 c9 f2 _ HH2.out h63 hfc2).mono ?_;rintro e w3 ⟨rfl,q,rfl⟩
    have hlen:(Lib.compact f2++List.replicate (f2.length-(Lib.compact f2).length) 0).length=f2.length:=by
     rw[List.length_append,List.length_replicate];omega
    obtain⟨ho3,hb3⟩:=HS2.out.put (m:=q) (os:=#[]) rfl hlen;have ho4:=OwnK.cut ho3 hcl;rw[Sort.grow_empty]at ho4 hb3
    have HE:Hid (NS w (Sort.putRow (Value.int .i64) (Sort.ahead w1 q) g 0 (Lib.compact f2++List.replicate (f2.length-(Lib.compact f2).length) 0).toArray) (.slice (some ⟨g,0,none⟩) (Lib.compact f2).length c9) (Lib.compact f2)):=by
     refine⟨hb3,?_⟩
     have e:(b_l (Lib.compact f2++List.replicate (f2.length-(Lib.compact f2).length) 0)).take (Lib.compact f2).length=b_l (Lib.compact f2):=by
      rw[← m_V,List.take_left]
     rw[e]at ho4;exact ho4
    clear ho3 ho4 hb3 hlen;go_wp2
    go_ret;refine⟨.slice (some ⟨g,0,none⟩) (Lib.compact f2).length c9,rfl,?_⟩;rw[HF.out];exact HE.out
end Plan
end Go.Proofs.YtkpnmpjnpcjohaaGreat
