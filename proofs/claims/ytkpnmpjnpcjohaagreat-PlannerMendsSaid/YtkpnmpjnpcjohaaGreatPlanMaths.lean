import Derived.Test.YtkpnmpjnpcjohaaGreatMaths
import Derived.Lib.SlicesCompact
set_option linter.unusedVariables false
namespace Go.Proofs.YtkpnmpjnpcjohaaGreat
open FleetMath
namespace PlanMath
structure Rte where
 drv:Int
 served:Int
 stops:List Stp
def c_h:List Stp→Stp→Nat→Int
 |[],_,_=>-1
 |x::r,s,k=>if x=s then(k:Int)else c_h r s (k+1)
abbrev idxS(l:List Stp)(s:Stp):Int:=c_h l s 0
def a_L:List Rte→Int→Nat→Int
 |[],_,_=>-1
 |x::r,d,k=>if x.drv=d then(k:Int)else a_L r d (k+1)
structure Spt where
 drv:Int
 pick:Int
 drop:Int
def b_b:List Rte→Int→Option Spt
 |[],_=>none
 |x::r,o=>if 0≤idxS x.stops ⟨o,false⟩∨0≤idxS x.stops ⟨o,true⟩then some ⟨x.drv,idxS x.stops ⟨o,false⟩,idxS x.stops ⟨o,true⟩⟩else b_b r o
def b_G(r:Rte):List Stp:=r.stops.take r.served.toNat
def a_Q(l:List Rte)(o:Int):Bool:=l.any fun r=>(b_G r).any fun s=>decide (s.ord=o)
def a_b(l:List Rte)(os:List Int):List Rte:=l.map fun r=>⟨r.drv,r.served,r.stops.filter fun s=>!decide (s.ord∈os) || a_Q l s.ord⟩
def e_y(r:Rte):Bool:=decide (1≤r.drv∧r.drv≤1000000∧r.stops.length≤80∧0≤r.served∧r.served≤r.stops.length∧∀s∈r.stops,1≤s.ord∧s.ord≤1000000)
def allS(l:List Rte):List Stp:=l.flatMap (·.stops)
def a_h(l:List Rte):Bool:=decide (l.length≤8) && l.all e_y && decide (l.Pairwise fun a b=>a.drv<b.drv) && decide ((allS l).Pairwise (·≠·))
theorem b_o(x:Stp)(r:List Stp)(s:Stp)(k:Nat):c_h (x::r) s k=if x=s then(k:Int)else c_h r s (k+1):=rfl
theorem c_e(x:Rte)(r:List Rte)(d:Int)(k:Nat):a_L (x::r) d k=if x.drv=d then(k:Int)else a_L r d (k+1):=rfl
theorem e_V(x:Rte)(r:List Rte)(o:Int):b_b (x::r) o=if 0≤idxS x.stops ⟨o,false⟩∨0≤idxS x.stops ⟨o,true⟩then some ⟨x.drv,idxS x.stops ⟨o,false⟩,idxS x.stops ⟨o,true⟩⟩else b_b r o:=rfl
def nmb(a:Int):Bool:=decide (1≤a∧a≤1000000)
def a_7(r:Rte):Bool:=decide (r.stops.length≤80∧0≤r.served∧r.served≤r.stops.length) && r.stops.all fun s=>nmb s.ord
def b_z(last:Int)(L:List Stp):List Rte→Bool
 |[]=>decide L.Nodup
 |x::r=>decide (last<x.drv∧x.drv≤1000000) && a_7 x && b_z x.drv (L++x.stops) r
theorem d_X(last:Int)(L:List Stp)(x:Rte)(r:List Rte):b_z last L (x::r)=(decide (last<x.drv∧x.drv≤1000000) && a_7 x && b_z x.drv (L++x.stops) r):=rfl
theorem c_0{x:Rte}(h:a_7 x=true):x.stops.length≤80:=by
 simp only[a_7,Bool.and_eq_true,decide_eq_true_eq]at h;exact h.1.1
theorem c_s{x:Rte}(h:a_7 x=true){s:Stp}(hs:s∈x.stops):1≤s.ord∧s.ord≤1000000:=by
 simp only[a_7,Bool.and_eq_true,List.all_eq_true,nmb,decide_eq_true_eq]at h;exact h.2 s hs
theorem b_g(l:List Rte)(last:Int)(L:List Stp):b_z last L l=true↔(∀ r∈l,last<r.drv∧r.drv≤1000000∧a_7 r=true)∧l.Pairwise (fun a b=>a.drv<b.drv)∧(L++allS l).Nodup:=by
 induction l generalizing last L with
 |nil=>simp[b_z,allS]
 |cons x r ih=>
  rw[d_X,Bool.and_eq_true,Bool.and_eq_true,ih,decide_eq_true_eq,List.pairwise_cons];have e:L++allS (x::r)=L++x.stops++allS r:=by simp[allS]
  rw[e];constructor
  ·rintro⟨⟨⟨h1,h2⟩,h3⟩,h4,h5,h6⟩
   refine⟨fun q hq=>?_,⟨fun q hq=>(h4 q hq).1,h5⟩,h6⟩;rcases List.mem_cons.1 hq with rfl|hq
   ·exact⟨h1,h2,h3⟩
   ·exact⟨Int.lt_trans h1 (h4 q hq).1,(h4 q hq).2⟩
  ·rintro⟨h1,⟨h2,h3⟩,h4⟩
   obtain⟨a1,a2,a3⟩:=h1 x (by simp);exact⟨⟨⟨a1,a2⟩,a3⟩,fun q hq=>⟨h2 q hq,(h1 q (by simp[hq])).2⟩,h3,h4⟩
theorem m_2(r:Rte):e_y r=true↔0<r.drv∧r.drv≤1000000∧a_7 r=true:=by
 simp only[e_y,a_7,nmb,decide_eq_true_eq,Bool.and_eq_true,List.all_eq_true];constructor
 ·rintro⟨h1,h2,h3,h4,h5,h6⟩;exact⟨by omega,h2,⟨h3,h4,h5⟩,h6⟩
 ·rintro⟨h1,h2,⟨h3,h4,h5⟩,h6⟩;exact⟨by omega,h2,h3,h4,h5,h6⟩
theorem b_h(l:List Rte):a_h l=(decide (l.length≤8) && b_z 0 [] l):=by
 rw[Bool.eq_iff_iff];simp only[a_h,Bool.and_eq_true,decide_eq_true_eq,List.all_eq_true,b_g,List.nil_append,m_2,List.Nodup];constructor
 ·rintro⟨⟨⟨h1,h2⟩,h3⟩,h4⟩;exact⟨h1,h2,h3,h4⟩
 ·rintro⟨h1,h2,h3,h4⟩;exact⟨⟨⟨h1,h2⟩,h3⟩,h4⟩
theorem a_R{l:List Rte}(h:a_h l=true){x:Rte}(hx:x∈l):a_7 x=true:=by
 rw[b_h,Bool.and_eq_true,b_g]at h;exact(h.2.1 x hx).2.2
theorem d_a{l:List Rte}(h:a_h l=true){x:Rte}(hx:x∈l):0≤x.served:=by
 have:=a_R h hx;simp only[a_7,Bool.and_eq_true,decide_eq_true_eq]at this;exact this.1.2.1
theorem b_2{l:List Rte}(h:a_h l=true):l.length≤8:=by
 rw[b_h,Bool.and_eq_true,decide_eq_true_eq]at h;exact h.1
def d_g(l:List Rte)(o:Int)(s:Spt)(x:Rte):Bool:=a_h l && nmb o && (b_b l o).isNone && decide (x.stops.length≤78∧x.served≤s.pick∧s.pick≤s.drop∧s.drop≤x.stops.length)
def b_U(l:List Rte)(o:Int)(s:Spt):Option (List Rte):=
 if a_L l s.drv 0<0 then none else match l[(a_L l s.drv 0).toNat]? with
 |none=>none
 |some x=>if d_g l o s x then some (l.set (a_L l s.drv 0).toNat ⟨x.drv,x.served,putR x.stops o s.pick s.drop⟩)else none
theorem f_g(l:List Rte):a_b l []=l:=by
 unfold a_b
 have:(fun r:Rte=>(⟨r.drv,r.served,r.stops.filter fun s=>!decide (s.ord∈([]:List Int)) || a_Q l s.ord⟩:Rte))=id:=by
  funext r
  have e:(r.stops.filter fun s=>!decide (s.ord∈([]:List Int)) || a_Q l s.ord)=r.stops:=by
   rw[List.filter_eq_self];intro s _;simp
  rw[e];rfl
 rw[this,List.map_id]
theorem t_p{l:List Rte}(h:a_h l=true):∀r∈l,∀s∈r.stops,1≤s.ord∧s.ord≤1000000:=fun r hr s hs=>c_s (a_R h hr) hs
theorem r_h{l:List Stp}{o i j:Int}(h:0≤i∧i≤j∧j≤l.length):(putR l o i j).length=l.length+2:=by
 unfold putR;rw[if_pos h];exact f_B (by omega) (by omega)
def a_p(l:List Rte):List Int:=Lib.compact ((allS l).map (·.ord) |>.mergeSort fun x y=>decide (x≤y))
theorem e_W:∀{l m:List Int},l.Pairwise (·<·)→m.Pairwise (·<·)→(∀ x,x∈l↔x∈m)→l=m
 |[],[],_,_,_=>rfl
 |[],b::m,_,_,h=>absurd ((h b).2 (by simp)) (by simp)
 |a::l,[],_,_,h=>absurd ((h a).1 (by simp)) (by simp)
 |a::l,b::m,hl,hm,h=>by
  rw[List.pairwise_cons]at hl hm
  have hab:a=b:=by
   rcases List.mem_cons.1 ((h a).1 (by simp))with e|e
   ·exact e
   ·rcases List.mem_cons.1 ((h b).2 (by simp))with e'|e'
    ·exact e'.symm
    ·have h1:=hm.1 a e
     have h2:=hl.1 b e';omega
  subst hab;rw[e_W hl.2 hm.2 fun x=>?_];constructor
  ·intro hx
   have:=hl.1 x hx;rcases List.mem_cons.1 ((h x).1 (by simp[hx]))with e|e
   ·omega
   ·exact e
  ·intro hx
   have:=hm.1 x hx;rcases List.mem_cons.1 ((h x).2 (by simp[hx]))with e|e
   ·omega
   ·exact e
theorem m_3{d:Array Int}(hs:∀i j,i≤j→j<d.size→d[i]!≤d[j]!)(m:Nat)(hm:m≤d.size):
 (Lib.compactUpTo d m).Pairwise (·<·)∧∀x,x∈Lib.compactUpTo d m↔∃j,j<m∧d[j]! =x:=by
 induction m with
 |zero=>exact⟨by simp[Lib.compactUpTo],fun x=>by simp[Lib.compactUpTo]⟩
 |succ m ih=>
  obtain⟨h1,h2⟩:=ih (by omega);rw[Lib.compactUpTo_succ];cases hk:Lib.keeps d m with
  |true=>
   rw[if_pos rfl];refine⟨List.pairwise_append.2 ⟨h1,by simp,fun x hx y hy=>?_⟩,fun x=>?_⟩
   ·obtain rfl:y=d[m]! :=by simpa using hy
    obtain⟨j,hj,rfl⟩:=(h2 x).1 hx
    have hne:d[m]!≠d[m-1]! :=by
     simp only[Lib.keeps,decide_eq_true_eq]at hk;rcases hk with hk|hk
     ·omega
     ·exact hk
    have e1:=hs j (m-1) (by omega) (by omega);have e2:=hs (m-1) m (by omega) (by omega);omega
   ·rw[List.mem_append,h2,List.mem_singleton]
    constructor
    ·rintro(⟨j,hj,e⟩|e)
     ·exact⟨j,by omega,e⟩
     ·exact⟨m,by omega,e.symm⟩
    ·rintro⟨j,hj,e⟩
     by_cases hjm:j=m
     ·subst hjm;exact Or.inr e.symm
     ·exact Or.inl ⟨j,by omega,e⟩
  |false=>
   rw[if_neg (by decide),List.append_nil];refine⟨h1,fun x=>(h2 x).trans ?_⟩;simp only[Lib.keeps,decide_eq_false_iff_not,not_or,Decidable.not_not]at hk;constructor
   ·rintro⟨j,hj,e⟩;exact⟨j,by omega,e⟩
   ·rintro⟨j,hj,e⟩
    by_cases hjm:j=m
    ·subst hjm;exact⟨j-1,by omega,by rw[← hk.2];exact e⟩
    ·exact⟨j,by omega,e⟩
theorem g_Q{l:List Int}(hs:l.Pairwise (·≤·)):(Lib.compact l).Pairwise (·<·)∧∀x,x∈Lib.compact l↔x∈l:=by
 have hget:∀j,j<l.length→l.toArray[j]! =l[j]! :=fun j hj=>by simp
 have key:=m_3 (d:=l.toArray) (fun i j hij hj=>by
  have hj':j<l.length:=by simpa using hj
  rw[getElem!_pos l.toArray i (by simp;omega),getElem!_pos l.toArray j (by simp;omega)];simp only[List.getElem_toArray];rcases Nat.lt_or_ge i j with h|h
  ·exact List.pairwise_iff_getElem.1 hs i j (by omega) hj' h
  ·obtain rfl:i=j:=by omega
   exact Int.le_refl _) l.length (by simp)
 refine⟨key.1,fun x=>(key.2 x).trans ?_⟩;rw[List.mem_iff_getElem];constructor
 ·rintro⟨j,hj,e⟩
  rw[getElem!_pos l.toArray j (by simpa using hj)]at e;exact⟨j,hj,by simpa using e⟩
 ·rintro⟨j,hj,e⟩
  exact⟨j,hj,by rw[getElem!_pos l.toArray j (by simpa using hj)];simpa using e⟩
theorem b_i(l:List Rte):(a_p l).Pairwise (·<·)∧∀x,x∈a_p l↔x∈(allS l).map (·.ord):=by
 have hs:(((allS l).map (·.ord)).mergeSort fun x y=>decide (x≤y)).Pairwise (·≤·):=by
  have:=List.pairwise_mergeSort (le:=fun x y:Int=>decide (x≤y)) (fun a b c h1 h2=>by simp only[decide_eq_true_eq]at *;omega) (fun a b=>by simp only[Bool.or_eq_true,decide_eq_true_eq];omega) ((allS l).map (·.ord));exact this.imp fun h=>by simpa using h
 obtain⟨h1,h2⟩:=g_Q hs;exact⟨h1,fun x=>(h2 x).trans (List.mem_mergeSort)⟩
theorem m_4{l:List Rte}{f:List Int}(h:f.Pairwise (·<·))(hm:∀x,x∈f↔x∈(allS l).map (·.ord)):f=a_p l:=
 e_W h (b_i l).1 fun x=>(hm x).trans ((b_i l).2 x).symm
theorem m_5{l:List Stp}{s:Stp}(h:s∉l)(k:Nat):c_h l s k=-1:=by
 induction l generalizing k with
 |nil=>rfl
 |cons x r ih=>
  rw[b_o,if_neg (fun e=>h (by simp[e])),ih fun hr=>h (by simp[hr])]
theorem d_9{l:List Stp}{s:Stp}(h:s∈l)(k:Nat):(k:Int)≤c_h l s k:=by
 induction l generalizing k with
 |nil=>cases h
 |cons x r ih=>
  rw[b_o];split
  ·exact Int.le_refl _
  ·rename_i hx
   rcases List.mem_cons.1 h with e|e
   ·exact absurd e.symm hx
   ·have:=ih e (k+1)
    omega
theorem idxS_iff{l:List Stp}{s:Stp}:0≤idxS l s↔s∈l:=by
 constructor
 ·intro h
  by_cases hs:s∈l
  ·exact hs
  ·have h':=h
   unfold idxS at h';rw[m_5 hs]at h';omega
 ·intro h
  exact d_9 h 0
theorem findP_none{l:List Rte}{o:Int}:b_b l o=none↔∀x∈l,∀s∈x.stops,s.ord≠o:=by
 induction l with
 |nil=>simp[b_b]
 |cons x r ih=>
  rw[e_V];constructor
  ·intro h
   split at h
   ·cases h
   ·rename_i hn
    rw[idxS_iff,idxS_iff,not_or]at hn;intro y hy s hs;rcases List.mem_cons.1 hy with rfl|hy
    ·rintro rfl
     obtain⟨so,sd⟩:=s;cases sd
     ·exact hn.1 hs
     ·exact hn.2 hs
    ·exact ih.1 h y hy s hs
  ·intro h
   rw[if_neg]
   ·exact ih.2 fun y hy=>h y (by simp[hy])
   ·rw[idxS_iff,idxS_iff]
    rintro(hs|hs)
    ·exact h x (by simp) _ hs rfl
    ·exact h x (by simp) _ hs rfl
theorem m_6{l:List Rte}{d:Int}{k:Nat}(h:0≤a_L l d k):∃i x,a_L l d k=((k+i:Nat):Int)∧l[i]?=some x∧x.drv=d:=by
 induction l generalizing k with
 |nil=>exact absurd h (by show ¬(0:Int)≤-1;decide)
 |cons x r ih=>
  rw[c_e]at h ⊢;split
  ·rename_i e
   exact⟨0,x,rfl,rfl,e⟩
  ·rename_i e
   rw[if_neg e]at h;obtain⟨i,y,h1,h2,h3⟩:=ih h;exact⟨i+1,y,by rw[h1];congr 1;omega,by simpa using h2,h3⟩
theorem r_i{l:List Stp}{o:Int}{i j:Nat}(hij:i≤j)(hj:j≤l.length)(s:Stp):s∈putM l o i j↔s=⟨o,false⟩∨s=⟨o,true⟩∨s∈l:=by
 have e:l=l.take i++((l.drop i).take (j-i)++l.drop j):=by
  have h1:(l.drop i).drop (j-i)=l.drop j:=by rw[List.drop_drop];congr 1;omega
  rw[← h1,List.take_append_drop,List.take_append_drop]
 have hm:s∈l↔s∈l.take i∨s∈(l.drop i).take (j-i)∨s∈l.drop j:=by
  conv=>lhs;rw[e]
  rw[List.mem_append,List.mem_append]
 rw[hm];unfold putM;simp only[List.mem_append,List.mem_cons];constructor
 ·rintro(h|h|h|h|h)
  ·exact Or.inr (Or.inr (Or.inl h))
  ·exact Or.inl h
  ·exact Or.inr (Or.inr (Or.inr (Or.inl h)))
  ·exact Or.inr (Or.inl h)
  ·exact Or.inr (Or.inr (Or.inr (Or.inr h)))
 ·rintro(h|h|h|h|h)
  ·exact Or.inr (Or.inl h)
  ·exact Or.inr (Or.inr (Or.inr (Or.inl h)))
  ·exact Or.inl h
  ·exact Or.inr (Or.inr (Or.inl h))
  ·exact Or.inr (Or.inr (Or.inr (Or.inr h)))
theorem p_b{l:List Stp}{o:Int}{i j:Nat}(hij:i≤j):(putM l o i j).Perm (⟨o,false⟩::⟨o,true⟩::l):=by
 have e:l=l.take i++((l.drop i).take (j-i)++l.drop j):=by
  have h1:(l.drop i).drop (j-i)=l.drop j:=by rw[List.drop_drop];congr 1;omega
  rw[← h1,List.take_append_drop,List.take_append_drop]
 unfold putM;refine List.perm_middle.trans (List.Perm.cons _ ?_);rw[← List.append_assoc];refine List.perm_middle.trans (List.Perm.cons _ ?_);rw[List.append_assoc,←e]
theorem p_c{l:List Stp}{o:Int}{i j k:Nat}(hk:k≤i)(hi:i≤l.length):(putM l o i j).take k=l.take k:=by
 unfold putM;rw[List.take_append_of_le_length (by rw[List.length_take];omega),List.take_take];congr 1
 omega
structure WithAt (l:List Rte) (o:Int) (s:Spt) (i:Nat) (x:Rte):Prop where
 at_:l[i]?=some x
 drv:x.drv=s.drv
 right:a_h l=true
 num:1≤o∧o≤1000000
 new:∀y∈l,∀t∈y.stops,t.ord≠o
 few:x.stops.length≤78
 served:0≤x.served∧x.served≤s.pick
 le:s.pick≤s.drop
 len:s.drop≤x.stops.length
theorem withP_some{l:List Rte}{o:Int}{s:Spt}{q:List Rte}(h:b_U l o s=some q):
 ∃i x,WithAt l o s i x∧q=l.set i ⟨x.drv,x.served,putM x.stops o s.pick.toNat s.drop.toNat⟩:=by
 unfold b_U at h;split at h
 ·cases h
 rename_i hn
 obtain⟨i,x,h1,h2,h3⟩:=m_6 (Int.not_lt.1 hn);rw[Nat.zero_add]at h1;rw[h1,Int.toNat_natCast,h2]at h;simp only at h;split at h
 ·rename_i hok
  injection h with h;simp only[d_g,Bool.and_eq_true,decide_eq_true_eq,nmb,Option.isNone_iff_eq_none]at hok;obtain⟨⟨⟨k1,k2⟩,k3⟩,k4,k5,k6,k7⟩:=hok;have hs:=d_a k1 (List.mem_of_getElem? h2);refine⟨i,x,⟨h2,h3,k1,k2,findP_none.1 k3,k4,⟨hs,k5⟩,k6,k7⟩,?_⟩;rw[← h];unfold putR;rw[if_pos ⟨by omega,k6,k7⟩]
 ·cases h
section
variable {l : List Rte} {o : Int} {s : Spt} {i : Nat} {x : Rte}
theorem WithAt.lt(h:WithAt l o s i x):i<l.length:=(List.getElem?_eq_some_iff.1 h.at_).1
theorem WithAt.mem(h:WithAt l o s i x):x∈l:=List.mem_of_getElem? h.at_
abbrev newR(x:Rte)(o:Int)(s:Spt):Rte:=⟨x.drv,x.served,putM x.stops o s.pick.toNat s.drop.toNat⟩
theorem WithAt.le'(h:WithAt l o s i x):s.pick.toNat≤s.drop.toNat∧s.drop.toNat≤x.stops.length∧x.served.toNat≤s.pick.toNat:=by
 have:=h.le;have:=h.len;have:=h.served;omega
theorem WithAt.split(h:WithAt l o s i x):l=l.take i++x::l.drop (i+1)∧l.set i (newR x o s)=l.take i++newR x o s::l.drop (i+1):=by
 refine⟨?_,List.set_eq_take_append_cons_drop.trans (if_pos h.lt)⟩;conv=>lhs;rw[← List.take_append_drop i l,List.drop_eq_getElem_cons h.lt]
 have:l[i]'h.lt=x:=by have:=h.at_;rw[List.getElem?_eq_getElem h.lt]at this;exact Option.some.inj this
 rw[this]
theorem WithAt.allPerm(h:WithAt l o s i x):(allS (l.set i (newR x o s))).Perm (⟨o,false⟩::⟨o,true⟩::allS l):=by
 obtain⟨e1,e2⟩:=h.split
 have ea:allS l=allS (l.take i)++(x.stops++allS (l.drop (i+1))):=by
  conv=>lhs;rw[e1]
  simp[allS]
 rw[e2,ea];have eb:allS (l.take i++newR x o s::l.drop (i+1))=allS (l.take i)++(putM x.stops o s.pick.toNat s.drop.toNat++allS (l.drop (i+1))):=by simp[allS]
 rw[eb];refine((p_b h.le'.1).append_right _).append_left _ |>.trans ?_;rw[List.cons_append,List.cons_append];refine List.perm_middle.trans (List.Perm.cons _ ?_);exact List.perm_middle
theorem WithAt.allMem(h:WithAt l o s i x)(y:Int):y∈(allS (l.set i (newR x o s))).map (·.ord)↔y=o∨y∈(allS l).map (·.ord):=by
 rw[(h.allPerm.map (·.ord)).mem_iff];simp
theorem WithAt.fresh(h:WithAt l o s i x):o∉(allS l).map (·.ord):=by
 intro hm;simp only[List.mem_map,allS,List.mem_flatMap]at hm;obtain⟨t,⟨y,hy,ht⟩,e⟩:=hm;exact h.new y hy t ht e
theorem WithAt.right'(h:WithAt l o s i x):a_h (l.set i (newR x o s))=true:=by
 have hr:=h.right;have hb:=a_R hr h.mem;obtain⟨h1,h2,h3⟩:=h.le';rw[b_h,Bool.and_eq_true,decide_eq_true_eq,b_g]at hr ⊢;obtain⟨k1,k2,k3,k4⟩:=hr;refine⟨by rw[List.length_set];exact k1,fun r hm=>?_,?_,?_⟩
 ·rcases List.mem_or_eq_of_mem_set hm with hm|rfl
  ·exact k2 r hm
  ·obtain⟨a1,a2,_⟩:=k2 x h.mem
   refine⟨a1,a2,?_⟩;simp only[a_7,Bool.and_eq_true,decide_eq_true_eq,List.all_eq_true,nmb]at hb ⊢;obtain⟨⟨b1,b2,b3⟩,b4⟩:=hb;have hl:=f_B (o:=o) h1 h2;refine⟨⟨by rw[hl];have:=h.few;omega,b2,by rw[hl];omega⟩,fun t ht=>?_⟩;rcases(r_i h1 h2 t).1 ht with rfl|rfl|ht
   ·exact h.num
   ·exact h.num
   ·exact b4 t ht
 ·have e:∀q:List Rte,q.Pairwise (fun a b=>a.drv<b.drv)↔(q.map (·.drv)).Pairwise (·<·):=fun q=>List.pairwise_map.symm
  rw[e]at k3 ⊢
  have em:(l.set i (newR x o s)).map (·.drv)=l.map (·.drv):=by
   rw[List.map_set];apply List.ext_getElem?;intro j;by_cases hj:j=i
   ·subst hj
    rw[List.getElem?_set_self (by rw[List.length_map];exact h.lt),List.getElem?_map,h.at_];rfl
   ·rw[List.getElem?_set_ne (by omega)]
  rw[em];exact k3
 ·rw[List.nil_append]at k4 ⊢
  rw[h.allPerm.nodup_iff];refine List.nodup_cons.2 ⟨fun hm=>?_,List.nodup_cons.2 ⟨fun hm=>?_,k4⟩⟩
  ·rcases List.mem_cons.1 hm with hm|hm
   ·cases hm
   ·exact h.fresh (List.mem_map.2 ⟨_,hm,rfl⟩)
  ·exact h.fresh (List.mem_map.2 ⟨_,hm,rfl⟩)
end
end PlanMath
end Go.Proofs.YtkpnmpjnpcjohaaGreat
